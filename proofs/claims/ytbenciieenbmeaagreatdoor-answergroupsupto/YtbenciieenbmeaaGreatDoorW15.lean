import Derived.Test.YtbenciieenbmeaaGreatDoorW03
import Derived.Maps.OwnSet
import Derived.Maps.OwnOps
import Derived.Maps.AppendAt
import Derived.DeepKeys4
import Derived.Test.YtbenciieenbmeaaGreatDoorW14
/- answer: maps from keys to places; lists side by side; the different ones of a list. -/
namespace Go.Proofs.YtbenciieenbmeaaGreatDoor
open Go Go.Shelf Go.ChangeShapes Go.WideShapes Go.ChangeAt Go.RowKit Go.Maps
set_option linter.unusedVariables false
/-- a kind of key: its value, which of them are asked, the key's type and the map's -/
structure Ky (κ : Type) where
  val : κ → Value
  ok : κ → Prop
  k : TypeId
  t : TypeId
structure KyOK {κ : Type} (Y : Ky κ) : Prop where
  keyed : Keyed Tryz.prog Y.k
  und : Tryz.prog.underlying Y.t = some (.map Y.k 3)
  key : ∀ x, Y.ok x → ∃ l, keyOf Tryz.prog Y.k (Y.val x) = some l
  inj : ∀ x y, Y.val x = Y.val y → x = y
theorem wf64 {n : Int} (h1 : -9223372036854775808 ≤ n) (h2 : n ≤ 9223372036854775807) : (Lit.int .i64 n).wf = true := by
  show (decide (IntKind.i64.min ≤ n) && decide (n ≤ IntKind.i64.max)) = true
  rw [Bool.and_eq_true, decide_eq_true_iff, decide_eq_true_iff]
  exact ⟨h1, h2⟩
section
variable {κ : Type} {Y : Ky κ}
/-- a map from keys to places -/
def MI (Y : Ky κ) (w : World) (b n : Nat) (F : κ → Option Nat) : Prop :=
  ∃ D : DataW Value, w.ownsMap Tryz.prog Y.k (plainElem Tryz.prog 3) b n D ∧ ∀ x, Y.ok x → ∀ l, keyOf Tryz.prog Y.k (Y.val x) = some l → D.atKey l (.lit (.int .i64 0)) = .lit (.int .i64 (((F x).getD 0 : Nat) : Int)) ∧ Maps.has D l = (F x).isSome
theorem MI.made (w : World) : MI Y (w.alloc (.map #[] 0)) w.heap.size 0 (fun _ => none) :=
  ⟨.map [], World.ownsMap_made w _ _ _, fun x _ l _ => ⟨rfl, rfl⟩⟩
theorem MI.same {w w' : World} {b n : Nat} {F : κ → Option Nat} (h : MI Y w b n F) (hb : w'.heap[b]? = w.heap[b]?) : MI Y w' b n F := by
  obtain ⟨D, ⟨es, clock, hh, h2⟩, h3⟩ := h
  exact ⟨D, ⟨es, clock, hb.trans hh, h2⟩, h3⟩
theorem MI.lt {w : World} {b n : Nat} {F : κ → Option Nat} (h : MI Y w b n F) : b < w.heap.size := by
  obtain ⟨D, h1, h3⟩ := h
  exact h1.lt
theorem MI.isMap {w : World} {b n : Nat} {F : κ → Option Nat} (h : MI Y w b n F) : ∃ es clock, w.heap[b]? = some (.map es clock) := by
  obtain ⟨D, ⟨es, clock, hh, h2⟩, h3⟩ := h
  exact ⟨es, clock, hh⟩
theorem MI.below {w w' : World} {b n : Nat} {F : κ → Option Nat} (h : MI Y w b n F) (hb : Below w.heap.size w w') : MI Y w' b n F := h.same (hb.block _ h.lt)
set_option maxRecDepth 100000 in
theorem MI.look (hY : KyOK Y) {w : World} {b n : Nat} {F : κ → Option Nat} (h : MI Y w b n F) {x : κ} (hx : Y.ok x) :
    (Instr.lookup Y.t (.map (some b)) (Y.val x) true).run Tryz.prog w = .ok (.tuple #[.int .i64 (((F x).getD 0 : Nat) : Int), .bool (F x).isSome]) w := by
  obtain ⟨D, hm, hF⟩ := h
  obtain ⟨l, hl⟩ := hY.key x hx
  obtain ⟨v, ps, hrun, hR⟩ := hm.look_ok hY.keyed hY.und (Tryz.zeroValue3 w) (plainElem_int Tryz.underlying3 (by decide)) hl
  obtain ⟨h1, h2⟩ := hF x hx l hl
  rw [h1] at hR
  obtain ⟨a, rfl, e, _⟩ := plainElem_int_inv Tryz.underlying3 hR
  have e2 : (DataW.lit (.int .i64 (((F x).getD 0 : Nat) : Int)) : DataW Value) = .lit (.int .i64 a) := congrArg Prod.fst e
  injection e2 with e2
  injection e2 with _ e2
  rw [hrun, h2, e2]
theorem MI.put (hY : KyOK Y) {w : World} {b n : Nat} {F : κ → Option Nat} (h : MI Y w b n F) {x : κ} (hx : Y.ok x) (p : Nat) (hp : p ≤ 4294967296) (hn : n ≤ 4294967296) (G : κ → Option Nat) (hG : ∀ y, y ≠ x → G y = F y) (hGx : G x = some p) :
    ∃ w', (Instr.mapUpdate Y.t (.map (some b)) (Y.val x) (.int .i64 (p : Int))).run Tryz.prog w = .ok () w' ∧ MI Y w' b (n + 1) G ∧ w.grownBy w' (some b) ∧ w'.heap.size = w.heap.size := by
  obtain ⟨D, hm, hF⟩ := h
  obtain ⟨l, hl⟩ := hY.key x hx
  have hw : (Lit.int .i64 (p : Int)).wf = true := by
    have h1 : (-9223372036854775808 : Int) ≤ (p : Int) := by omega
    have h2 : (p : Int) ≤ 9223372036854775807 := by omega
    exact wf64 h1 h2
  obtain ⟨w', hrun, hmap, hg⟩ := hm.store hY.keyed hY.und (by unfold maxLen; omega) hl (plainElem_int Tryz.underlying3 hw)
  have hsz : w'.heap.size = w.heap.size := by
    obtain ⟨_, _, _, _, _, rfl⟩ := hg
    simp [ChangeMaps.setBlock]
  refine ⟨w', hrun, ⟨_, hmap, fun y hy ly hly => ?_⟩, hg.grown, hsz⟩
  by_cases e : y = x
  · subst e
    have e2 : ly = l := by rw [hl] at hly; exact (Option.some.inj hly).symm
    subst e2
    rw [atKey_put_same hm.isMap (hY.keyed.key hl), has_put_same hm.isMap (hY.keyed.key hl), hGx]
    exact ⟨rfl, rfl⟩
  · have hne : ly ≠ l := fun e2 => e (hY.inj _ _ (hY.keyed.inj (e2 ▸ hly) hl))
    rw [atKey_put_other hne, has_put_other hne, hG y e]
    exact hF y hy ly hly
end
section
variable {α : Type} {K : Kd α}
/-- one element more of a list that a call owns, and what stays -/
theorem app1 (hK : KdOK K) {wr : World} {B : Nat} {v : Value} {n : Nat} {L : List α} (h : wr.ownsRow B K.e K.s v n (K.flat L)) (hB : B ≤ wr.heap.size) (x : α) (vs : Array Value) (hv : vs.toList = K.enc x) (ty : TypeId) (hl : n ≤ 4294967296) :
    ∃ p' c' w', (Builtin.append_ #[K.t, K.t] ty #[v, .slice (some ⟨wr.heap.size, 0, none⟩) 1 1]).run Tryz.prog (wr.alloc (.cells vs K.e)) = .ok (.slice p' (n + 1) c') w' ∧ w'.ownsRow B K.e K.s (.slice p' (n + 1) c') (n + 1) (K.flat (L ++ [x])) ∧ Below B wr w' ∧ (∀ k, k < wr.heap.size → v.ownBlock ≠ some k → w'.heap[k]? = wr.heap[k]?) ∧ ((Value.slice p' (n + 1) c').ownBlock = v.ownBlock ∨ (Value.slice p' (n + 1) c').ownBlock = some (wr.heap.size + 1)) ∧ wr.heap.size ≤ w'.heap.size := by
  obtain ⟨p8, c8, w8, r8, o8, b8, s8, n8⟩ := run_app hK ty (W := wr.alloc (.cells vs K.e)) (M := [x]) (B := B) (L := L) (n := n) (v := v) (h.alloc _) (Nat.le_trans hB (by simp)) (some ⟨wr.heap.size, 0, none⟩) 1 (fun h => by cases h) (one_lies wr x K.e vs hv) (by simp; omega)
  refine ⟨p8, c8, w8, r8, o8, ((Below.refl B wr).alloc hB _).trans b8, fun k hk hne => (s8 k (by simp; omega) hne).trans (Below.heap_alloc _ _ _ hk), ?_, Nat.le_trans (by simp) b8.size⟩
  have e : (wr.alloc (.cells vs K.e)).heap.size = wr.heap.size + 1 := by simp
  rw [e] at n8
  exact n8
end
section
variable {κ : Type}
theorem onD_ind {p : List κ → Prop} (h0 : p []) (h1 : ∀ L x, p L → p (L ++ [x])) : ∀ L, p L := fun L => by
  have : ∀ n (L : List κ), L.length = n → p L := fun n => by
    induction n with
    | zero => intro L h; rw [List.eq_nil_of_length_eq_zero h]; exact h0
    | succ n ih =>
      intro L h
      have hne : L ≠ [] := fun e => by rw [e] at h; cases h
      rw [← List.dropLast_concat_getLast hne]
      exact h1 _ _ (ih _ (by rw [List.length_dropLast, h]; rfl))
  exact this _ L rfl
theorem ne_mapI {Y : Ky κ} {w : World} {B e s n b nn : Nat} {v : Value} {xs : List Value} {F : κ → Option Nat} (hm : MI Y w b nn F) (hv : w.ownsRow B e s v n xs) : v.ownBlock ≠ some b := fun h => by
  obtain ⟨_, _, o, ho, hc⟩ := row_block hv h
  obtain ⟨es, clock, hb⟩ := hm.isMap
  rw [hb] at ho
  cases ho
  cases hc
end
section
variable {κ : Type} [DecidableEq κ]
/-- the different ones of a list -/
def onD (L : List κ) : List κ := L.foldl (fun D x => if x ∈ D then D else D ++ [x]) []
theorem onD_snoc (L : List κ) (x : κ) : onD (L ++ [x]) = if x ∈ onD L then onD L else onD L ++ [x] := by unfold onD; rw [List.foldl_append]; rfl
theorem onD_take (L : List κ) (k : Nat) (hk : k < L.length) : onD (L.take (k + 1)) = if L[k] ∈ onD (L.take k) then onD (L.take k) else onD (L.take k) ++ [L[k]] := by
  rw [List.take_succ_eq_append_getElem hk, onD_snoc]
theorem mem_onD (L : List κ) : ∀ x, x ∈ onD L ↔ x ∈ L := by
  refine onD_ind (p := fun L => ∀ x, x ∈ onD L ↔ x ∈ L) (fun x => Iff.rfl) (fun L y ih x => ?_) L
  rw [onD_snoc]
  split
  · rename_i h
    rw [ih, List.mem_append, List.mem_singleton]
    exact ⟨.inl, fun h2 => h2.elim id (fun e => by rw [e]; exact (ih y).1 h)⟩
  · rw [List.mem_append, List.mem_append, ih]
theorem nodup_onD (L : List κ) : (onD L).Nodup := by
  refine onD_ind (p := fun L => (onD L).Nodup) List.nodup_nil (fun L y ih => ?_) L
  rw [onD_snoc]
  split
  · exact ih
  · rename_i h
    exact List.nodup_append.2 ⟨ih, by simp, fun a ha b hb e => h (by rw [← List.mem_singleton.1 hb, ← e]; exact ha)⟩
theorem len_onD (L : List κ) : (onD L).length ≤ L.length := by
  refine onD_ind (p := fun L => (onD L).length ≤ L.length) (Nat.le_refl _) (fun L y ih => ?_) L
  rw [onD_snoc, List.length_append]
  split
  · omega
  · rw [List.length_append]; simpa using ih
/-- the place of each one among these -/
def onP (L : List κ) : List Int := L.map (fun x => (((onD L).idxOf x : Nat) : Int))
theorem onP_snoc (L : List κ) (x : κ) : onP (L ++ [x]) = onP L ++ [((if x ∈ onD L then (onD L).idxOf x else (onD L).length : Nat) : Int)] := by
  unfold onP
  rw [List.map_append, onD_snoc]
  by_cases h : x ∈ onD L
  · rw [if_pos h, if_pos h]; rfl
  · rw [if_neg h, if_neg h]
    congr 1
    · refine List.map_congr_left fun y hy => ?_
      rw [List.idxOf_append, if_pos ((mem_onD L y).2 hy)]
    · simp [List.idxOf_append, h]
theorem onP_take (L : List κ) (k : Nat) (hk : k < L.length) : onP (L.take (k + 1)) = onP (L.take k) ++ [((if L[k] ∈ onD (L.take k) then (onD (L.take k)).idxOf L[k] else (onD (L.take k)).length : Nat) : Int)] := by
  rw [List.take_succ_eq_append_getElem hk, onP_snoc]
theorem onP_len (L : List κ) : (onP L).length = L.length := by unfold onP; rw [List.length_map]
/-- where a key stands -/
def onF (D : List κ) (x : κ) : Option Nat := if x ∈ D then some (D.idxOf x) else none
theorem onF_snoc {D : List κ} {x : κ} (h : x ∉ D) : onF (D ++ [x]) x = some D.length ∧ ∀ y, y ≠ x → onF (D ++ [x]) y = onF D y := by
  constructor
  · unfold onF; rw [if_pos (by simp)]; simp [List.idxOf_append, h]
  · intro y hy
    unfold onF
    by_cases c : y ∈ D
    · rw [if_pos (by simp [c]), if_pos c, List.idxOf_append, if_pos c]
    · rw [if_neg (by simp [c, hy]), if_neg c]
/-- how far 'once' has come -/
structure On (K : Kd κ) (Y : Ky κ) (W wr : World) (b : Nat) (v2 v3 : Value) (L : List κ) : Prop where
  r2 : wr.ownsRow W.heap.size K.e K.s v2 (onD L).length (K.flat (onD L))
  r3 : wr.ownsRow W.heap.size kI.e kI.s v3 L.length (kI.flat (onP L))
  ap : ∀ g, v2.ownBlock = some g → v3.ownBlock = some g → False
  m : MI Y wr b (onD L).length (onF (onD L))
  hb : W.heap.size ≤ b
  bel : Below W.heap.size W wr
variable {K : Kd κ} {Y : Ky κ}
theorem On.made (W : World) : On K Y W (W.alloc (.map #[] 0)) W.heap.size (.slice none 0 0) (.slice none 0 0) [] where
  r2 := ⟨by simp [Kd.flat, onD], .inl ⟨rfl, rfl⟩⟩
  r3 := ⟨by simp [Kd.flat, onP], .inl ⟨rfl, rfl⟩⟩
  ap := fun g h => by cases h
  m := MI.made W
  hb := Nat.le_refl _
  bel := Below.a1 W _
theorem On.below {W wr w' : World} {b : Nat} {v2 v3 : Value} {L : List κ} (h : On K Y W wr b v2 v3 L) (hB : Below wr.heap.size wr w') : On K Y W w' b v2 v3 L where
  r2 := row_keep h.r2 (fun g hg => hB.block g (row_block h.r2 hg).2.1)
  r3 := row_keep h.r3 (fun g hg => hB.block g (row_block h.r3 hg).2.1)
  ap := h.ap
  m := h.m.below hB
  hb := h.hb
  bel := h.bel.trans (hB.mono h.bel.size)
/-- a place told of one that was there -/
theorem On.more {W wr : World} {b : Nat} {v2 v3 : Value} {L : List κ} (h : On K Y W wr b v2 v3 L) {x : κ} (hx : x ∈ onD L) (hl : L.length ≤ 16777216) (ty : TypeId) :
    ∃ p' c' w', (Builtin.append_ #[23, 23] ty #[v3, .slice (some ⟨wr.heap.size, 0, none⟩) 1 1]).run Tryz.prog (wr.alloc (.cells #[.int .i64 (((onD L).idxOf x : Nat) : Int)] 3)) = .ok (.slice p' (L.length + 1) c') w' ∧ On K Y W w' b v2 (.slice p' (L.length + 1) c') (L ++ [x]) := by
  obtain ⟨p', c', w', r, o, bl, st, lo, sz⟩ := app1 kI_ok h.r3 h.bel.size (((onD L).idxOf x : Nat) : Int) #[.int .i64 (((onD L).idxOf x : Nat) : Int)] rfl ty (by omega)
  have e1 : onD (L ++ [x]) = onD L := by rw [onD_snoc, if_pos hx]
  have e2 : onP (L ++ [x]) = onP L ++ [(((onD L).idxOf x : Nat) : Int)] := by rw [onP_snoc, if_pos hx]
  have hne : v3.ownBlock ≠ some b := ne_mapI h.m h.r3
  refine ⟨p', c', w', r, ⟨?_, ?_, ?_, ?_, h.hb, h.bel.trans bl⟩⟩
  · rw [e1]
    exact row_keep h.r2 (fun g hg => st g (row_block h.r2 hg).2.1 (fun e => h.ap g hg e))
  · rw [e2, List.length_append]
    exact o
  · intro g hg hg'
    rcases lo with e | e
    · rw [e] at hg'; exact h.ap g hg hg'
    · rw [e] at hg'
      have := (row_block h.r2 hg).2.1
      have := Option.some.inj hg'
      omega
  · rw [e1]
    exact h.m.same (st b h.m.lt hne)
/-- one that is new: the map, the list -/
theorem On.newM (hY : KyOK Y) {W wr : World} {b : Nat} {v2 v3 : Value} {L : List κ} (h : On K Y W wr b v2 v3 L) {x : κ} (hx : x ∉ onD L) (hox : Y.ok x) (hl : L.length ≤ 16777216) :
    ∃ w', (Instr.mapUpdate Y.t (.map (some b)) (Y.val x) (.int .i64 (((onD L).length : Nat) : Int))).run Tryz.prog wr = .ok () w' ∧ MI Y w' b ((onD L).length + 1) (onF (onD L ++ [x])) ∧ wr.grownBy w' (some b) ∧ w'.heap.size = wr.heap.size := by
  have hD := len_onD L
  exact h.m.put hY hox (onD L).length (by omega) (by omega) _ (fun y hy => (onF_snoc hx).2 y hy) (onF_snoc hx).1
theorem On.newD (hK : KdOK K) {W wr w1 w2 : World} {b : Nat} {v2 v3 : Value} {L : List κ} (h : On K Y W wr b v2 v3 L) {x : κ} (hx : x ∉ onD L) (hl : L.length ≤ 16777216) (hm : MI Y w1 b ((onD L).length + 1) (onF (onD L ++ [x]))) (hg : wr.grownBy w1 (some b)) (hB : Below w1.heap.size w1 w2) (vs : Array Value) (hv : vs.toList = K.enc x) (ty ty2 : TypeId) :
    ∃ p' c' w', (Builtin.append_ #[K.t, K.t] ty #[v2, .slice (some ⟨w2.heap.size, 0, none⟩) 1 1]).run Tryz.prog (w2.alloc (.cells vs K.e)) = .ok (.slice p' ((onD L).length + 1) c') w' ∧ ∀ w3, Below w'.heap.size w' w3 → ∃ p2 c2 w4, (Builtin.append_ #[23, 23] ty2 #[v3, .slice (some ⟨w3.heap.size, 0, none⟩) 1 1]).run Tryz.prog (w3.alloc (.cells #[.int .i64 (((onD L).length : Nat) : Int)] 3)) = .ok (.slice p2 (L.length + 1) c2) w4 ∧ On K Y W w4 b (.slice p' ((onD L).length + 1) c') (.slice p2 (L.length + 1) c2) (L ++ [x]) := by
  have hD := len_onD L
  have hm2 := hm.below hB
  have nb2 : v2.ownBlock ≠ some b := ne_mapI h.m h.r2
  have nb3 : v3.ownBlock ≠ some b := ne_mapI h.m h.r3
  have b1 : Below W.heap.size W w1 := h.bel.trans ⟨hg.os, hg.tape, hg.output, hg.size, fun k hk => hg.block k (Nat.lt_of_lt_of_le hk h.bel.size) (fun e => by have := Option.some.inj e; have := h.hb; omega)⟩
  have b2 : Below W.heap.size W w2 := b1.trans (hB.mono b1.size)
  have q2 : w2.ownsRow W.heap.size K.e K.s v2 (onD L).length (K.flat (onD L)) := row_keep h.r2 (fun g hg' => (hB.block g (Nat.lt_of_lt_of_le (row_block h.r2 hg').2.1 hg.size)).trans (hg.block g (row_block h.r2 hg').2.1 (fun e => nb2 (by rw [hg', e]))))
  have q3 : w2.ownsRow W.heap.size kI.e kI.s v3 L.length (kI.flat (onP L)) := row_keep h.r3 (fun g hg' => (hB.block g (Nat.lt_of_lt_of_le (row_block h.r3 hg').2.1 hg.size)).trans (hg.block g (row_block h.r3 hg').2.1 (fun e => nb3 (by rw [hg', e]))))
  obtain ⟨p', c', w', r, o, bl, st, lo, sz⟩ := app1 hK q2 b2.size x vs hv ty (by omega)
  refine ⟨p', c', w', r, fun w3 hB3 => ?_⟩
  have q3' : w'.ownsRow W.heap.size kI.e kI.s v3 L.length (kI.flat (onP L)) := row_keep q3 (fun g hg' => st g (row_block q3 hg').2.1 (fun e => h.ap g e hg'))
  have q33 : w3.ownsRow W.heap.size kI.e kI.s v3 L.length (kI.flat (onP L)) := row_keep q3' (fun g hg' => hB3.block g (row_block q3' hg').2.1)
  have b3 : Below W.heap.size W w3 := (b2.trans bl).trans (hB3.mono (b2.trans bl).size)
  have m3 : MI Y w3 b ((onD L).length + 1) (onF (onD L ++ [x])) := (hm2.same (st b hm2.lt nb2)).below hB3
  have o3 : w3.ownsRow W.heap.size K.e K.s (.slice p' ((onD L).length + 1) c') ((onD L).length + 1) (K.flat (onD L ++ [x])) := row_keep o (fun g hg' => hB3.block g (row_block o hg').2.1)
  have ap3 : ∀ g, (Value.slice p' ((onD L).length + 1) c').ownBlock = some g → v3.ownBlock = some g → False := fun g hg' hg3 => by
    rcases lo with e | e
    · rw [e] at hg'; exact h.ap g hg' hg3
    · rw [e] at hg'
      have := (row_block q3 hg3).2.1
      have := Option.some.inj hg'
      omega
  obtain ⟨p2, c2, w4, r4, o4, bl4, st4, lo4, sz4⟩ := app1 kI_ok q33 b3.size (((onD L).length : Nat) : Int) #[.int .i64 (((onD L).length : Nat) : Int)] rfl ty2 (by omega)
  have e1 : onD (L ++ [x]) = onD L ++ [x] := by rw [onD_snoc, if_neg hx]
  have e2 : onP (L ++ [x]) = onP L ++ [(((onD L).length : Nat) : Int)] := by rw [onP_snoc, if_neg hx]
  refine ⟨p2, c2, w4, r4, ⟨?_, ?_, ?_, ?_, h.hb, b3.trans bl4⟩⟩
  · rw [e1, List.length_append]
    exact row_keep o3 (fun g hg' => st4 g (row_block o3 hg').2.1 (fun e => ap3 g hg' e))
  · rw [e2, List.length_append]
    exact o4
  · intro g hg' hg4
    rcases lo4 with e | e
    · rw [e] at hg4; exact ap3 g hg' hg4
    · rw [e] at hg4
      have := (row_block o3 hg').2.1
      have := Option.some.inj hg4
      omega
  · rw [e1, List.length_append]
    exact m3.same (st4 b m3.lt (ne_mapI m3 q33))
end
end Go.Proofs.YtbenciieenbmeaaGreatDoor
/- answer: once 45, 46. -/
namespace Go.Proofs.YtbenciieenbmeaaGreatDoor
open Go Go.Shelf Go.ChangeShapes Go.WideShapes Go.ChangeAt Go.RowKit Go.Maps
set_option linter.unusedVariables false
set_option maxRecDepth 100000
set_option maxHeartbeats 4000000
/-- an aggregate with its column's type -/
structure Ag where
  kd : Int
  of' : Int
  ty : Int
deriving DecidableEq
def Ag.val (x : Ag) : Value := .agg #[.int .i64 x.kd, .int .i64 x.of', .int .i64 x.ty]
def Ag.vals (x : Ag) : List Value := [.int .i64 x.kd, .int .i64 x.of', .int .i64 x.ty]
def inI (n : Int) : Prop := -9223372036854775808 ≤ n ∧ n ≤ 9223372036854775807
def Ag.ok (x : Ag) : Prop := inI x.kd ∧ inI x.of' ∧ inI x.ty
def kA : Kd Ag := ⟨Ag.vals, 3, 78, 104, 24⟩
theorem kA_ok : KdOK kA := kd_ok (fun _ => rfl) (by decide) (fun x u hu => by simp [kA, Ag.vals] at hu; rcases hu with rfl | rfl | rfl <;> rfl) Tryz.underlying78 (z := .agg #[.int .i64 0, .int .i64 0, .int .i64 0]) (by kernel_rfl) rfl (by decide)
def yI : Ky Int := ⟨fun x => .int .i64 x, inI, 3, 151⟩
theorem yI_ok : KyOK yI where
  keyed := int_keyed Tryz.underlying3
  und := Tryz.underlying151
  key := fun x hx => ⟨.int .i64 x, by
    show keyOf Tryz.prog 3 (.int .i64 x) = _
    simp [keyOf, mapKey, Tryz.underlying3, wf64 hx.1 hx.2]⟩
  inj := fun x y h => by injection h
theorem lits_int (d : Nat) {x : Int} (hx : inI x) : Tryz.prog.keyLits (d + 1) 3 [.int .i64 x] = some [.int .i64 x] := by
  simp [Program.keyLits, Tryz.underlying3, wf64 hx.1 hx.2]
theorem laidOut : laidOutB Tryz.prog = true := by kernel_rfl
def yA : Ky Ag := ⟨Ag.val, Ag.ok, 104, 153⟩
theorem cells3 : Tryz.prog.cellsOf 3 = 1 := by kernel_rfl
theorem cells104 : Tryz.prog.cellsOf 104 = 3 := by kernel_rfl
theorem ktype104 : Tryz.prog.keyType 104 = true := by kernel_rfl
theorem types104 : 104 < Tryz.prog.types.size := Nat.le_of_ble_eq_true (by kernel_rfl)
theorem lits_ag (d : Nat) {x : Ag} (hx : x.ok) : Tryz.prog.keyLits (d + 1 + 1) 104 x.vals = some [.int .i64 x.kd, .int .i64 x.of', .int .i64 x.ty] := by
  unfold Program.keyLits
  rw [Tryz.underlying104]
  simp only [Ag.vals, cells104]
  have h0 := lits_int d hx.1
  have h1 := lits_int d hx.2.1
  have h2 := lits_int d hx.2.2
  simp [h0, h1, h2, cells3]
theorem yA_ok : KyOK yA where
  keyed := Keyed.of_law (deep_law_laid laidOut (m := 5) (by decide) types104 (by kernel_rfl) (by kernel_rfl))
  und := Tryz.underlying153
  key := fun x hx => by
    refine ⟨.string (keyBytes [.int .i64 x.kd, .int .i64 x.of', .int .i64 x.ty]), ?_⟩
    show keyOf Tryz.prog 104 x.val = _
    unfold keyOf
    rw [Tryz.underlying104]
    have h1 : x.val.formed Tryz.prog 104 = true := by
      unfold Ag.val
      simp [Value.formed, Tryz.underlying104, cells104]
    have h2 : Tryz.prog.types.size + 1 = (Tryz.prog.types.size - 1) + 1 + 1 := by
      have := types104
      omega
    simp only [ktype104, h1]
    rw [h2, show x.val.cells.toList = x.vals from rfl, lits_ag _ hx]
    rfl
  inj := fun x y h => by
    obtain ⟨a, b, c⟩ := x
    obtain ⟨a', b', c'⟩ := y
    simp [yA, Ag.val] at h
    simp [h]

def ld104 (x : Value) : Sem Value := Instr.loadAt 104 x
theorem ld104_is (x : Value) : Instr.loadAt 104 x = ld104 x := rfl
theorem size104 : (Tryz.prog.info? 104).map (·.size) = some 3 := by kernel_rfl
theorem run_ld104 {w : World} {b o : Nat} {x : Ag} (h : w.rangeAt b o x.vals) : (ld104 (.pointer (some ⟨b, o, none⟩))).run Tryz.prog w = .ok x.val w :=
  run_loadAt_mid (P := Tryz.prog) w b o 104 x.vals _ h Tryz.underlying104 rfl size104
theorem once45 {W : World} {p : Option Addr} {n c : Nat} {L : List Int} (hn : L.length = n) (hb : n ≤ 4194304) (hL : Lies kI W p L) (hI : ∀ x ∈ L, yI.ok x) :
    Calls Tryz.prog 45 #[.slice p n c] W fun e w' => ∃ b p2 c2 p3 c3, e = .returned (.tuple #[.slice p2 (onD L).length c2, .slice p3 n c3]) ∧ On kI yI W w' b (.slice p2 (onD L).length c2) (.slice p3 n c3) L := by
  have H0 : Hid (On kI yI W (W.alloc (.map #[] 0)) W.heap.size (.slice none 0 0) (.slice none 0 0) (L.take 0)) := by
    show On _ _ _ _ _ _ _ _
    rw [List.take_zero]; exact On.made W
  have HL := hide hL; have HN := hide hn; have HI := hide hI
  clear hL hn hI
  have hmk := run_makeMap (P := Tryz.prog) 151 W
  go_enter Tryz.func45, Tryz.ntmps45
  go_wp2_with fail
  go_loopw [2, 3, 12] (fun v2 v3 v12 wr => ∃ (k : Nat) (p2 : Option Addr) (n2 c2 : Nat) (p3 : Option Addr) (c3 : Nat), v12 = .int .i64 k ∧ k ≤ n ∧ v2 = .slice p2 n2 c2 ∧ v3 = .slice p3 k c3 ∧ Hid (n2 = (onD (L.take k)).length) ∧ Hid (On kI yI W wr W.heap.size (.slice p2 n2 c2) (.slice p3 k c3) (L.take k))) (fun _ _ v12 _ => n - (intOf v12).toNat)
  case atStart => exact ⟨0, _, _, _, _, _, rfl, by omega, rfl, rfl, rfl, unhide H0⟩
  case round =>
    obtain ⟨k, p2, n2, c2, p3, c3, rfl, hk, rfl, rfl, hn2, hrel⟩ := hrel
    clear hmk
    by_cases hlt : k < n
    · have hkl : k < L.length := by rw [unhide HN]; exact hlt
      obtain ⟨b, off, e1, hbl, hr⟩ := (unhide HL).2 k hkl
      have htk : Hid (L.take (k + 1) = L.take k ++ [L[k]]) := List.take_succ_eq_append_getElem hkl
      have hok := unhide HI _ (List.getElem_mem hkl)
      obtain ⟨x, hx⟩ : ∃ x, x = L[k] := ⟨_, rfl⟩
      rw [← hx] at hr htk hok
      have hlen : (L.take k).length = k := by rw [List.length_take]; omega
      have hc := ((unhide hrel).bel.cell (p := ⟨b, off + k * kI.s + 0, none⟩) hbl).trans (hr 0 (.int .i64 x) rfl)
      simp only [kI, Nat.mul_one, Nat.add_zero] at hc
      have hkn : (k : Int) < (n : Int) := by omega
      have h3 : ¬ (k : Int) < 0 := by omega
      have HON := hide ((unhide hrel).below (Below.refl _ wr))
      have hn2' := unhide hn2
      have hbW : W.heap.size < wr.heap.size := (unhide hrel).m.lt
      subst e1
      clear hrel hn2 hr hx hbl hkl
      by_cases hin : x ∈ onD (L.take k)
      · have hlook := (unhide HON).m.look yI_ok hok
        have eF : onF (onD (L.take k)) x = some ((onD (L.take k)).idxOf x) := by unfold onF; rw [if_pos hin]
        rw [eF] at hlook
        obtain ⟨p', c', w', r, o⟩ := (unhide HON).more hin (by omega) 23
        rw [hlen] at r o
        rw [← unhide htk] at o
        have HE : Hid (n2 = (onD (L.take (k + 1))).length) := by
          show _ = _
          rw [unhide htk, onD_snoc, if_pos hin]; exact hn2'
        have HO := hide o
        obtain ⟨pl, hpl⟩ : ∃ z : Int, z = (((onD (L.take k)).idxOf x : Nat) : Int) := ⟨_, rfl⟩
        have hlook : (Instr.lookup 151 (.map (some W.heap.size)) (.int .i64 x) true).run Tryz.prog wr = .ok (.tuple #[.int .i64 pl, .bool true]) wr := by rw [hpl]; exact hlook
        rw [← hpl] at r
        skip
        have HR := hide r
        clear r o hpl HON eF hin hok hn2' hlen htk hbW
        skip
        go_wp2_with (first | (at_builtin; refine wpList_append_run rfl _ _ 23 rfl _ _ _ _ rfl rfl (unhide HR) ?_))
        refine ⟨⟨k + 1, p2, n2, c2, p', c', by go_num, by omega, rfl, rfl, unhide HE, unhide HO⟩, by simp [intOf]; omega⟩
      · have hlook := (unhide HON).m.look yI_ok hok
        have eF : onF (onD (L.take k)) x = none := by unfold onF; rw [if_neg hin]
        rw [eF] at hlook
        have hlook : (Instr.lookup 151 (.map (some W.heap.size)) (.int .i64 x) true).run Tryz.prog wr = .ok (.tuple #[.int .i64 0, .bool false]) wr := hlook
        obtain ⟨w1, hup, hm1, hg, hsz⟩ := (unhide HON).newM yI_ok hin hok (by omega)
        obtain ⟨p', c', w2, r2, hD⟩ := (unhide HON).newD kI_ok hin (by omega) hm1 hg (Below.refl _ w1) (#[.int .i64 x]) rfl 23 23
        obtain ⟨q2, d2, w4, r4, o⟩ := hD w2 (Below.refl _ w2)
        rw [hlen] at r4 o
        rw [← hn2'] at hup r2 r4 o
        rw [← unhide htk] at o
        have hup : (Instr.mapUpdate 151 (.map (some W.heap.size)) (.int .i64 x) (.int .i64 (n2 : Int))).run Tryz.prog wr = .ok () w1 := hup
        have r2 : (Builtin.append_ #[23, 23] 23 #[.slice p2 n2 c2, .slice (some ⟨w1.heap.size, 0, none⟩) 1 1]).run Tryz.prog (w1.alloc (.cells #[.int .i64 x] 3)) = .ok (.slice p' (n2 + 1) c') w2 := r2
        have HE : Hid (n2 + 1 = (onD (L.take (k + 1))).length) := by
          show _ = _
          rw [unhide htk, onD_snoc, if_neg hin, List.length_append, ← hn2']; rfl
        have HO := hide o
        have HR2 := hide r2
        have HR4 := hide r4
        clear r2 r4 o hD HON eF hin hok hn2' hlen htk hm1 hg hsz hbW
        skip
        go_upto_region 10 with (first | (at_builtin; refine wpList_append_run rfl _ _ 23 rfl _ _ _ _ rfl rfl (unhide HR2) ?_))
        go_wp2_with (first | (at_builtin; refine wpList_append_run rfl _ _ 23 rfl _ _ _ _ rfl rfl (unhide HR4) ?_))
        refine ⟨⟨k + 1, p', n2 + 1, c', q2, d2, by go_num, by omega, rfl, rfl, unhide HE, unhide HO⟩, by simp [intOf]; omega⟩
    · have hkn : k = n := by omega
      subst hkn
      have e : L.take k = L := List.take_of_length_le (by rw [unhide HN]; exact Nat.le_refl _)
      rw [e] at hrel hn2
      have HE : Hid (n2 = (onD L).length) := unhide hn2
      clear hn2
      go_wp2_with fail
      go_ret2
      refine ⟨W.heap.size, p2, c2, p3, c3, ?_, ?_⟩
      · rw [← unhide HE]; rfl
      · have := unhide hrel
        rwa [unhide HE] at this
section
attribute [local go_sem ↓] ld104_is
theorem once46 {W : World} {p : Option Addr} {n c : Nat} {L : List Ag} (hn : L.length = n) (hb : n ≤ 4194304) (hL : Lies kA W p L) (hI : ∀ x ∈ L, yA.ok x) :
    Calls Tryz.prog 46 #[.slice p n c] W fun e w' => ∃ b p2 c2 p3 c3, e = .returned (.tuple #[.slice p2 (onD L).length c2, .slice p3 n c3]) ∧ On kA yA W w' b (.slice p2 (onD L).length c2) (.slice p3 n c3) L := by
  have H0 : Hid (On kA yA W (W.alloc (.map #[] 0)) W.heap.size (.slice none 0 0) (.slice none 0 0) (L.take 0)) := by
    show On _ _ _ _ _ _ _ _
    rw [List.take_zero]; exact On.made W
  have HL := hide hL; have HN := hide hn; have HI := hide hI
  clear hL hn hI
  have hmk := run_makeMap (P := Tryz.prog) 153 W
  go_enter Tryz.func46, Tryz.ntmps46
  go_wp2_with fail
  go_loopw [2, 3, 12] (fun v2 v3 v12 wr => ∃ (k : Nat) (p2 : Option Addr) (n2 c2 : Nat) (p3 : Option Addr) (c3 : Nat), v12 = .int .i64 k ∧ k ≤ n ∧ v2 = .slice p2 n2 c2 ∧ v3 = .slice p3 k c3 ∧ Hid (n2 = (onD (L.take k)).length) ∧ Hid (On kA yA W wr W.heap.size (.slice p2 n2 c2) (.slice p3 k c3) (L.take k))) (fun _ _ v12 _ => n - (intOf v12).toNat)
  case atStart => exact ⟨0, _, _, _, _, _, rfl, by omega, rfl, rfl, rfl, unhide H0⟩
  case round =>
    obtain ⟨k, p2, n2, c2, p3, c3, rfl, hk, rfl, rfl, hn2, hrel⟩ := hrel
    clear hmk
    by_cases hlt : k < n
    · have hkl : k < L.length := by rw [unhide HN]; exact hlt
      obtain ⟨b, off, e1, hbl, hr⟩ := (unhide HL).2 k hkl
      have htk : Hid (L.take (k + 1) = L.take k ++ [L[k]]) := List.take_succ_eq_append_getElem hkl
      have hok := unhide HI _ (List.getElem_mem hkl)
      obtain ⟨x, hx⟩ : ∃ x, x = L[k] := ⟨_, rfl⟩
      rw [← hx] at hr htk hok
      have hlen : (L.take k).length = k := by rw [List.length_take]; omega
      have l1 := run_ld104 (w := wr) (b := b) (o := off + k * 3) (x := x) (fun j u hu => ((unhide hrel).bel.cell (p := ⟨b, off + k * 3 + j, none⟩) hbl).trans (hr j u hu))
      have l2 := run_ld104 (w := wr.alloc (.cells x.vals.toArray 104)) (b := wr.heap.size) (o := 0) (x := x) (new_range wr x.vals 104)
      have hkn : (k : Int) < (n : Int) := by omega
      have h3 : ¬ (k : Int) < 0 := by omega
      have HON := hide ((unhide hrel).below (Below.a1 wr (.cells x.vals.toArray 104)))
      have hn2' := unhide hn2
      have hbW : W.heap.size < wr.heap.size := (unhide hrel).m.lt
      subst e1
      clear hrel hn2 hr hx hbl hkl
      by_cases hin : x ∈ onD (L.take k)
      · have hlook := (unhide HON).m.look yA_ok hok
        have eF : onF (onD (L.take k)) x = some ((onD (L.take k)).idxOf x) := by unfold onF; rw [if_pos hin]
        rw [eF] at hlook
        obtain ⟨p', c', w', r, o⟩ := (unhide HON).more hin (by omega) 23
        rw [hlen] at r o
        rw [← unhide htk] at o
        have HE : Hid (n2 = (onD (L.take (k + 1))).length) := by
          show _ = _
          rw [unhide htk, onD_snoc, if_pos hin]; exact hn2'
        have HO := hide o
        obtain ⟨pl, hpl⟩ : ∃ z : Int, z = (((onD (L.take k)).idxOf x : Nat) : Int) := ⟨_, rfl⟩
        have hlook : (Instr.lookup 153 (.map (some W.heap.size)) (x.val) true).run Tryz.prog (wr.alloc (.cells x.vals.toArray 104)) = .ok (.tuple #[.int .i64 pl, .bool true]) (wr.alloc (.cells x.vals.toArray 104)) := by rw [hpl]; exact hlook
        rw [← hpl] at r
        simp only [World.size_alloc] at r
        have HR := hide r
        clear r o hpl HON eF hin hok hn2' hlen htk hbW
        (obtain ⟨x1, x2, x3⟩ := x; unfold Ag.vals Ag.val at *)
        go_wp2_with (first | (at_builtin; refine wpList_append_run rfl _ _ 23 rfl _ _ _ _ rfl rfl (unhide HR) ?_))
        refine ⟨⟨k + 1, p2, n2, c2, p', c', by go_num, by omega, rfl, rfl, unhide HE, unhide HO⟩, by simp [intOf]; omega⟩
      · have hlook := (unhide HON).m.look yA_ok hok
        have eF : onF (onD (L.take k)) x = none := by unfold onF; rw [if_neg hin]
        rw [eF] at hlook
        have hlook : (Instr.lookup 153 (.map (some W.heap.size)) (x.val) true).run Tryz.prog (wr.alloc (.cells x.vals.toArray 104)) = .ok (.tuple #[.int .i64 0, .bool false]) (wr.alloc (.cells x.vals.toArray 104)) := hlook
        obtain ⟨w1, hup, hm1, hg, hsz⟩ := (unhide HON).newM yA_ok hin hok (by omega)
        have l3 := run_ld104 (w := w1) (b := wr.heap.size) (o := 0) (x := x) (fun j u hu => by
          rw [← new_range wr x.vals 104 j u hu]
          exact World.cell?_of_block (a := ⟨wr.heap.size, 0 + j, none⟩) (hg.block _ (by simp) (fun e => by have e2 : wr.heap.size = W.heap.size := Option.some.inj e; omega)))
        obtain ⟨p', c', w2, r2, hD⟩ := (unhide HON).newD kA_ok hin (by omega) hm1 hg (Below.refl _ w1) (x.vals.toArray) rfl 78 23
        obtain ⟨q2, d2, w4, r4, o⟩ := hD w2 (Below.refl _ w2)
        rw [hlen] at r4 o
        rw [← hn2'] at hup r2 r4 o
        rw [← unhide htk] at o
        have hup : (Instr.mapUpdate 153 (.map (some W.heap.size)) (x.val) (.int .i64 (n2 : Int))).run Tryz.prog (wr.alloc (.cells x.vals.toArray 104)) = .ok () w1 := hup
        have r2 : (Builtin.append_ #[78, 78] 78 #[.slice p2 n2 c2, .slice (some ⟨w1.heap.size, 0, none⟩) 1 1]).run Tryz.prog (w1.alloc (.cells x.vals.toArray 104)) = .ok (.slice p' (n2 + 1) c') w2 := r2
        have HE : Hid (n2 + 1 = (onD (L.take (k + 1))).length) := by
          show _ = _
          rw [unhide htk, onD_snoc, if_neg hin, List.length_append, ← hn2']; rfl
        have HO := hide o
        have HR2 := hide r2
        have HR4 := hide r4
        clear r2 r4 o hD HON eF hin hok hn2' hlen htk hm1 hg hsz hbW
        (obtain ⟨x1, x2, x3⟩ := x; unfold Ag.vals Ag.val at *)
        go_upto_region 10 with (first | (at_builtin; refine wpList_append_run rfl _ _ 78 rfl _ _ _ _ rfl rfl (unhide HR2) ?_))
        go_wp2_with (first | (at_builtin; refine wpList_append_run rfl _ _ 23 rfl _ _ _ _ rfl rfl (unhide HR4) ?_))
        refine ⟨⟨k + 1, p', n2 + 1, c', q2, d2, by go_num, by omega, rfl, rfl, unhide HE, unhide HO⟩, by simp [intOf]; omega⟩
    · have hkn : k = n := by omega
      subst hkn
      have e : L.take k = L := List.take_of_length_le (by rw [unhide HN]; exact Nat.le_refl _)
      rw [e] at hrel hn2
      have HE : Hid (n2 = (onD L).length) := unhide hn2
      clear hn2
      go_wp2_with fail
      go_ret2
      refine ⟨W.heap.size, p2, c2, p3, c3, ?_, ?_⟩
      · rw [← unhide HE]; rfl
      · have := unhide hrel
        rwa [unhide HE] at this
end
end Go.Proofs.YtbenciieenbmeaaGreatDoor
/- answer: blocks whose cells are known; keys. -/
namespace Go.Proofs.YtbenciieenbmeaaGreatDoor
open Go Go.Shelf Go.ChangeShapes Go.WideShapes Go.ChangeAt Go.RowKit Go.Maps
set_option linter.unusedVariables false
set_option maxRecDepth 100000
set_option maxHeartbeats 4000000
/-- a block's cells, all of them -/
def Bk (W : World) (g : Nat) (t : TypeId) (vs : List Value) : Prop := W.heap[g]? = some (.cells vs.toArray t (0, 0))
theorem Bk.lt {W : World} {g : Nat} {t : TypeId} {vs : List Value} (h : Bk W g t vs) : g < W.heap.size := (Array.getElem?_eq_some_iff.1 h).1
theorem Bk.same {W W' : World} {g : Nat} {t : TypeId} {vs : List Value} (h : Bk W g t vs) (hb : W'.heap[g]? = W.heap[g]?) : Bk W' g t vs := hb.trans h
theorem Bk.range {W : World} {g : Nat} {t : TypeId} {pre vs post : List Value} (h : Bk W g t (pre ++ vs ++ post)) : W.rangeAt g pre.length vs := fun j u hu => by
  have hj := (List.getElem?_eq_some_iff.1 hu).1
  unfold World.cell?
  rw [h]
  simp only [List.getElem?_toArray]
  rw [List.append_assoc, List.getElem?_append_right (by omega), show pre.length + j - pre.length = j by omega, List.getElem?_append_left hj]
  exact hu
theorem Bk.cell {W : World} {g : Nat} {t : TypeId} {vs : List Value} (h : Bk W g t vs) (i : Nat) : W.cell? ⟨g, i, none⟩ = vs[i]? := by
  unfold World.cell?
  rw [h]
  simp
theorem setCells_blk {b : Nat} {t : TypeId} : ∀ (vs pre old post : List Value) (w : World), Bk w b t (pre ++ old ++ post) → old.length = vs.length → Bk (w.setCells b pre.length vs) b t (pre ++ vs ++ post)
  | [], pre, old, post, w, h, hl => by
    have : old = [] := List.eq_nil_of_length_eq_zero hl
    subst this
    exact h
  | v :: vs, pre, [], post, w, h, hl => by cases hl
  | v :: vs, pre, o :: old, post, w, h, hl => by
    have h1 : Bk (w.setCell ⟨b, pre.length, none⟩ v) b t ((pre ++ [v]) ++ old ++ post) := by
      unfold Bk at h ⊢
      rw [setC h]
      simp
    have h2 := setCells_blk vs (pre ++ [v]) old post _ h1 (by simpa using hl)
    rw [List.length_append] at h2
    have e : pre ++ (v :: vs) ++ post = (pre ++ [v]) ++ vs ++ post := by simp
    rw [e]
    exact h2
theorem fr_setCells {b : Nat} : ∀ (vs : List Value) (o : Nat) (a w : World), Fr a w (fun i => i = b) → Fr a (w.setCells b o vs) (fun i => i = b)
  | [], _, _, _, h => h
  | v :: vs, o, a, w, h => fr_setCells vs (o + 1) a _ (h.setCell (p := ⟨b, o, none⟩) (.inl rfl) v)
theorem Bk.there {W : World} {g : Nat} {t : TypeId} {vs : List Value} (h : Bk W g t vs) {o n : Nat} (ho : o + n ≤ vs.length) : W.there g o n := fun j hj => by
  have e : W.heap[g]? = some (.cells vs.toArray t (0, 0)) := h
  have hj' : o + j < vs.length := by omega
  simp [World.cell?, World.frozen?, e, hj']
theorem Bk.store {X : World} {g : Nat} {t : TypeId} {pre old post : List Value} (h : Bk X g t (pre ++ old ++ post)) (ty : TypeId) (new : Array Value) (hl : old.length = new.size) (hi : (Tryz.prog.info? ty).map (·.size) = some new.size) (h1 : new.all (·.oneCell') = true) :
    ∃ Y, (Instr.storeAt ty (.pointer (some ⟨g, pre.length, none⟩)) (.agg new)).run Tryz.prog X = .ok () Y ∧ Bk Y g t (pre ++ new.toList ++ post) ∧ Fr X Y (fun i => i = g) := by
  have hs := run_storeAt_mid (P := Tryz.prog) X g pre.length ty new (h.there (by simp; omega)) hi h1
  exact ⟨_, hs, setCells_blk new.toList pre old post X h (by simpa using hl), fr_setCells _ _ _ _ (Fr.refl _ _)⟩
/-- a key's cells -/
def kcs (k : List Cl) : List Value := k.flatMap Cl.vals
theorem kcs_len (k : List Cl) : (kcs k).length = k.length * 3 := by
  induction k with
  | nil => rfl
  | cons c k ih => simp [kcs, Cl.vals] at ih ⊢; omega
theorem kcs_app (a b : List Cl) : kcs (a ++ b) = kcs a ++ kcs b := List.flatMap_append
theorem kcs_cons (c : Cl) (k : List Cl) : kcs (c :: k) = c.vals ++ kcs k := rfl
theorem kcs_one (k : List Cl) : ∀ u ∈ kcs k, u.oneCell' = true := fun u hu => by
  obtain ⟨c, _, hc⟩ := List.mem_flatMap.1 hu
  simp [Cl.vals] at hc
  rcases hc with rfl | rfl | rfl <;> rfl
theorem kcs_inj : ∀ (a b : List Cl), kcs a = kcs b → a = b
  | [], [], _ => rfl
  | [], c :: b, h => by simp [kcs, Cl.vals] at h
  | c :: a, [], h => by simp [kcs, Cl.vals] at h
  | c :: a, d :: b, h => by
    have e1 : kcs (c :: a) = c.vals ++ kcs a := by simp [kcs]
    have e2 : kcs (d :: b) = d.vals ++ kcs b := by simp [kcs]
    rw [e1, e2] at h
    simp only [Cl.vals, List.cons_append, List.nil_append, List.cons.injEq, Value.int.injEq, Value.string.injEq, true_and] at h
    obtain ⟨h1, h2, h3, h4⟩ := h
    rw [kcs_inj a b h4]
    obtain ⟨x, y, z⟩ := c
    obtain ⟨x', y', z'⟩ := d
    simp only at h1 h2 h3
    rw [h1, h2, h3]
def kV (k : List Cl) : Value := .agg (kcs k).toArray
def Kok (k : List Cl) : Prop := k.length = 14 ∧ ∀ c ∈ k, inI c.ty ∧ inI c.num ∧ c.tx.size ≤ maxLen
def yK : Ky (List Cl) := ⟨kV, Kok, 117, 109⟩
theorem lits_str (d : Nat) {s : ByteArray} (hs : s.size ≤ maxLen) : Tryz.prog.keyLits (d + 1) 9 [.string s] = some [.string s.data.toList] := by
  simp [Program.keyLits, Tryz.underlying9, hs]
theorem lits_int2 (d : Nat) {x : Int} (hx : inI x) : Tryz.prog.keyLits (d + 1) 2 [.int .i64 x] = some [.int .i64 x] := by
  simp [Program.keyLits, Tryz.underlying2, wf64 hx.1 hx.2]
theorem cells2' : Tryz.prog.cellsOf 2 = 1 := by kernel_rfl
theorem cells9 : Tryz.prog.cellsOf 9 = 1 := by kernel_rfl
theorem cells45 : Tryz.prog.cellsOf 45 = 3 := by kernel_rfl
theorem cells117 : Tryz.prog.cellsOf 117 = 42 := by kernel_rfl
theorem ktype117 : Tryz.prog.keyType 117 = true := by kernel_rfl
theorem types117 : 117 < Tryz.prog.types.size := Nat.le_of_ble_eq_true (by kernel_rfl)
theorem lits_cell (d : Nat) {c : Cl} (h : inI c.ty ∧ inI c.num ∧ c.tx.size ≤ maxLen) : Tryz.prog.keyLits (d + 1 + 1) 45 c.vals = some [.int .i64 c.ty, .int .i64 c.num, .string c.tx.data.toList] := by
  unfold Program.keyLits
  rw [Tryz.underlying45]
  simp only [Cl.vals, cells45]
  have h0 := lits_int d h.1
  have h1 := lits_int2 d h.2.1
  have h2 := lits_str d h.2.2
  simp [h0, h1, h2, cells3, cells9, cells2']
theorem mapM_some {α β : Type} (f : α → Option β) : ∀ l : List α, (∀ i ∈ l, ∃ y, f i = some y) → ∃ r, l.mapM f = some r
  | [], _ => ⟨[], rfl⟩
  | a :: l, h => by
    obtain ⟨y, hy⟩ := h a (by simp)
    obtain ⟨r, hr⟩ := mapM_some f l (fun i hi => h i (by simp [hi]))
    exact ⟨y :: r, by simp [List.mapM_cons, hy, hr]⟩
theorem kcs_part (k : List Cl) (i : Nat) (hi : i < k.length) : ((kcs k).drop (i * 3)).take 3 = (k[i]).vals := by
  have e : k = k.take i ++ k[i] :: k.drop (i + 1) := by rw [List.getElem_cons_drop]; exact (List.take_append_drop i k).symm
  have e2 : kcs k = kcs (k.take i) ++ (k[i].vals ++ kcs (k.drop (i + 1))) := by
    conv => lhs; rw [e]
    rw [kcs_app, kcs_cons]
  have hl : (kcs (k.take i)).length = i * 3 := by rw [kcs_len, List.length_take]; congr 1; omega
  rw [e2, ← hl, List.drop_left]
  rfl
theorem yK_ok : KyOK yK where
  keyed := Keyed.of_law (deep_law_laid laidOut (m := 5) (by decide) types117 (by kernel_rfl) (by kernel_rfl))
  und := Tryz.underlying109
  key := fun k hk => by
    have h1 : (kV k).formed Tryz.prog 117 = true := by
      unfold kV
      simp [Value.formed, Tryz.underlying117, cells117, kcs_len, hk.1]
    have h2 : Tryz.prog.types.size + 1 = (Tryz.prog.types.size - 2) + 1 + 1 + 1 := by
      have := types117
      omega
    obtain ⟨r, hr⟩ : ∃ r, Tryz.prog.keyLits (Tryz.prog.types.size + 1) 117 (kcs k) = some r := by
      rw [h2]
      unfold Program.keyLits
      rw [Tryz.underlying117]
      simp only [cells117, cells45]
      rw [if_pos (by rw [kcs_len, hk.1])]
      obtain ⟨r, hr⟩ := mapM_some (fun i => Tryz.prog.keyLits (Tryz.prog.types.size - 2 + 1 + 1) 45 (((kcs k).drop (i * 3)).take 3)) (List.range 14) (fun i hi => by
        have hi' : i < k.length := by rw [hk.1]; exact List.mem_range.1 hi
        exact ⟨_, by rw [kcs_part k i hi']; exact lits_cell _ (hk.2 _ (List.getElem_mem hi'))⟩)
      exact ⟨_, by rw [hr]; rfl⟩
    refine ⟨.string (keyBytes r), ?_⟩
    show keyOf Tryz.prog 117 (kV k) = _
    unfold keyOf
    rw [Tryz.underlying117]
    simp only [ktype117, h1]
    rw [show (kV k).cells.toList = kcs k from by simp [kV, Value.cells], hr]
    rfl
  inj := fun x y h => by
    have h2 : (kcs x).toArray = (kcs y).toArray := by injection h
    exact kcs_inj x y (by simpa using h2)
def noK : List Cl := List.replicate 14 .no
/-- a row's key -/
noncomputable def keyK (F : List Int) (r : Ro) : List Cl := F.map (fun f => fwC f r) ++ List.replicate (14 - F.length) .no
noncomputable def badK (F : List Int) (r : Ro) : Bool := F.any (fun f => (fwC f r).ty == 0)
end Go.Proofs.YtbenciieenbmeaaGreatDoor
