/- maps from names to lists that a call owns. -/
import Derived.Test.YtenoaechonpjgaaDoorDlF
import Derived.Maps.OwnSet
import Derived.Maps.OwnOps
import Derived.Maps.OwnRows
import Derived.Maps.AppendAt
import Derived.Maps.RangeWalk
namespace Go.Proofs.YtenoaechonpjgaaDoor
open Go Go.ChangeShapes Go.WideShapes Go.ChangeAt Go.RowKit Go.Maps
set_option linter.unusedVariables false
variable {α : Type} {K : Kd α}
theorem keyM {s : ByteArray} (hs : s.size ≤ maxLen) : keyOf Tryd.prog 9 (.string s) = some (.string s.data.toList) := by
  simp [keyOf, mapKey, Tryd.underlying9, hs]
/-- a map's element that is a slice, held as it is -/
def sliceElem : Value → Option (DataW Value × List MemPlace)
  | .slice p n c => some (.held (.slice p n c), [])
  | _ => none
theorem sliceElem_inv {v : Value} {y : DataW Value × List MemPlace} (h : sliceElem v = some y) : ∃ p n c, v = .slice p n c ∧ y = (.held v, []) := by
  unfold sliceElem at h
  split at h
  · injection h with h; exact ⟨_, _, _, rfl, h.symm⟩
  · cases h
/-- a map from names to lists: each name's list is in the hand of the map alone -/
structure MSAt (K : Kd α) (w : World) (B b n : Nat) (D : DataW Value) (F : List UInt8 → List α) (V : List UInt8 → Value) : Prop where
  map : w.ownsMap Tryd.prog 9 sliceElem b n D
  val : ∀ k, D.atKey (.string k) (.held (.slice none 0 0)) = .held (V k)
  key : ∀ k, Maps.has D (.string k) = true ↔ F k ≠ []
  row : ∀ k, w.ownsRow B K.e K.s (V k) (F k).length (K.flat (F k))
  nil : ∀ k, F k = [] → V k = .slice none 0 0
  apart : ∀ k k', k ≠ k' → F k ≠ [] → F k' ≠ [] → (V k).ownBlock ≠ (V k').ownBlock
theorem row_some {w : World} {B e s n : Nat} {v : Value} {xs : List Value} (h : w.ownsRow B e s v n xs) (hn : 0 < n) : ∃ g, v.ownBlock = some g := by
  rcases h.2 with ⟨e, h2⟩ | ⟨g', c, xs, e, hB, hh, _⟩
  · omega
  · exact ⟨g', by rw [e]; rfl⟩
theorem MSAt.made (w : World) (B : Nat) : MSAt K (w.alloc (.map #[] 0)) B w.heap.size 0 (.map []) (fun _ => []) (fun _ => .slice none 0 0) where
  map := World.ownsMap_made w _ _ _
  val k := rfl
  key k := by simp [has_eq]
  row k := World.ownsRow_nil _ _ _ _
  nil k _ := rfl
  apart k k' _ h := by simp at h
theorem MSAt.blk {w : World} {B b n : Nat} {D : DataW Value} {F : List UInt8 → List α} {V : List UInt8 → Value} (h : MSAt K w B b n D F V) {k : List UInt8} {g : Nat} (hg : (V k).ownBlock = some g) : B ≤ g ∧ g < w.heap.size ∧ F k ≠ [] := by
  have := row_block (h.row k) hg
  refine ⟨this.1, this.2.1, fun e => ?_⟩
  rw [h.nil k e] at hg
  cases hg
/-- whatever leaves the map's block and the lists' blocks alone -/
theorem MSAt.keep {w w' : World} {B b n : Nat} {D : DataW Value} {F : List UInt8 → List α} {V : List UInt8 → Value} (h : MSAt K w B b n D F V) {row : Option Nat} (hg : w.grownBy w' row) (hb : some b ≠ row) (hr : ∀ k, F k ≠ [] → (V k).ownBlock ≠ row) : MSAt K w' B b n D F V where
  map := h.map.kept hg hb
  val := h.val
  key := h.key
  row k := row_keep (h.row k) fun g hgk => hg.block g (h.blk hgk).2.1 (fun e => hr k (h.blk hgk).2.2 (by rw [hgk, e]))
  nil := h.nil
  apart := h.apart
theorem MSAt.alloc {w : World} {B b n : Nat} {D : DataW Value} {F : List UInt8 → List α} {V : List UInt8 → Value} (h : MSAt K w B b n D F V) (o : Obj) : MSAt K (w.alloc o) B b n D F V where
  map := h.map.alloc o
  val := h.val
  key := h.key
  row k := (h.row k).alloc o
  nil := h.nil
  apart := h.apart
theorem MSAt.drew {w : World} {B b n : Nat} {D : DataW Value} {F : List UInt8 → List α} {V : List UInt8 → Value} (h : MSAt K w B b n D F V) : MSAt K w.drew B b n D F V := ⟨h.map.drew, h.val, h.key, h.row, h.nil, h.apart⟩
theorem MSAt.below {w w' : World} {B b n : Nat} {D : DataW Value} {F : List UInt8 → List α} {V : List UInt8 → Value} (h : MSAt K w B b n D F V) (hb : Below w.heap.size w w') : MSAt K w' B b n D F V :=
  h.keep (grown_of_below hb) (fun e => by cases e) (fun k hk e => by
    obtain ⟨g, hg⟩ := row_some (h.row k) (List.length_pos_iff.2 hk)
    rw [hg] at e
    cases e)
set_option maxRecDepth 100000 in
theorem MSAt.look {w : World} {B b n : Nat} {D : DataW Value} {F : List UInt8 → List α} {V : List UInt8 → Value} (h : MSAt K w B b n D F V) {t e : TypeId} (ht : Tryd.prog.underlying t = some (.map 9 e)) (hz : (zeroValue e).run Tryd.prog w = .ok (.slice none 0 0) w) {s : ByteArray} (hs : s.size ≤ maxLen) :
    (Instr.lookup t (.map (some b)) (.string s) false).run Tryd.prog w = .ok (V s.data.toList) w := by
  obtain ⟨v, ps, hrun, hR⟩ := h.map.lookup (string_keyed Tryd.underlying9) ht hz (zd := .held (.slice none 0 0)) (zp := []) rfl (keyM hs)
  rw [h.val] at hR
  obtain ⟨p, n, c, rfl, e⟩ := sliceElem_inv hR
  have e2 : DataW.held (V s.data.toList) = DataW.held (Value.slice p n c) := congrArg Prod.fst e
  injection e2 with e2
  rw [e2]
  exact hrun
theorem ne_map {w : World} {B e s n b nn : Nat} {v : Value} {xs : List Value} {D : DataW Value} (hm : w.ownsMap Tryd.prog 9 sliceElem b nn D) (hv : w.ownsRow B e s v n xs) {g : Nat} (hg : v.ownBlock = some g) : some g ≠ some b := fun h => by
  obtain ⟨_, _, o, ho, hc⟩ := row_block hv hg
  obtain ⟨es, clock, hb, _⟩ := hm
  rw [Option.some.inj h, hb] at ho
  cases ho
  cases hc
/-- a name's list written anew -/
theorem MSAt.set0 {w0 w : World} {B b n : Nat} {D : DataW Value} {F : List UInt8 → List α} {V : List UInt8 → Value} (h : MSAt K w0 B b n D F V) (hmap0 : w.ownsMap Tryd.prog 9 sliceElem b n D) {t e : TypeId} (ht : Tryd.prog.underlying t = some (.map 9 e)) (hn : n < maxLen) {s : ByteArray} (hs : s.size ≤ maxLen) {v : Value} {L : List α} (hL : L ≠ []) (hv : w.ownsRow B K.e K.s v L.length (K.flat L)) (hrow : ∀ k, k ≠ s.data.toList → w.ownsRow B K.e K.s (V k) (F k).length (K.flat (F k))) (hap : ∀ k, k ≠ s.data.toList → F k ≠ [] → (V k).ownBlock ≠ v.ownBlock) :
    ∃ w' D', (Instr.mapUpdate t (.map (some b)) (.string s) v).run Tryd.prog w = .ok () w' ∧ MSAt K w' B b (n + 1) D' (fun k => if k = s.data.toList then L else F k) (fun k => if k = s.data.toList then v else V k) ∧ w.grownBy w' (some b) := by
  obtain ⟨pv, cv, hv', _⟩ := row_slice hv
  obtain ⟨w', hrun, hmap, hg⟩ := hmap0.update (val := v) (d := .held v) (ps := []) (string_keyed Tryd.underlying9) ht hn (keyM hs) (by rw [hv']; rfl)
  refine ⟨w', D.put (.string s.data.toList) (.held v), hrun, ⟨hmap, fun k => ?_, fun k => ?_, fun k => ?_, fun k hk => ?_, fun k k' hne hk hk' => ?_⟩, hg⟩
  · by_cases e : k = s.data.toList
    · subst e; rw [atKey_put_same h.map.isMap (by trivial)]; simp
    · rw [atKey_put_other (by simpa using e), h.val]; simp [e]
  · by_cases e : k = s.data.toList
    · subst e; rw [has_put_same h.map.isMap (by trivial)]; simp [hL]
    · rw [has_put_other (by simpa using e), h.key]; simp [e]
  · by_cases e : k = s.data.toList
    · simp only [if_pos e]
      exact row_keep hv fun g hgv => hg.block g (row_block hv hgv).2.1 (ne_map hmap0 hv hgv)
    · simp only [if_neg e]
      exact row_keep (hrow k e) fun g hgv => hg.block g (row_block (hrow k e) hgv).2.1 (ne_map hmap0 (hrow k e) hgv)
  · by_cases e : k = s.data.toList
    · simp only [if_pos e] at hk; exact absurd hk hL
    · simp only [if_neg e] at hk ⊢; exact h.nil k hk
  · by_cases e : k = s.data.toList
    · have e' : k' ≠ s.data.toList := fun e2 => hne (by rw [e, e2])
      simp only [if_neg e'] at hk'
      simp only [if_pos e, if_neg e']
      exact (hap k' e' hk').symm
    · simp only [if_neg e] at hk
      by_cases e' : k' = s.data.toList
      · simp only [if_neg e, if_pos e']
        exact hap k e hk
      · simp only [if_neg e'] at hk'
        simp only [if_neg e, if_neg e']
        exact h.apart k k' hne hk hk'
theorem MSAt.set {w : World} {B b n : Nat} {D : DataW Value} {F : List UInt8 → List α} {V : List UInt8 → Value} (h : MSAt K w B b n D F V) {t e : TypeId} (ht : Tryd.prog.underlying t = some (.map 9 e)) (hn : n < maxLen) {s : ByteArray} (hs : s.size ≤ maxLen) {v : Value} {L : List α} (hL : L ≠ []) (hv : w.ownsRow B K.e K.s v L.length (K.flat L)) (hap : ∀ k, k ≠ s.data.toList → F k ≠ [] → (V k).ownBlock ≠ v.ownBlock) :
    ∃ w' D', (Instr.mapUpdate t (.map (some b)) (.string s) v).run Tryd.prog w = .ok () w' ∧ MSAt K w' B b (n + 1) D' (fun k => if k = s.data.toList then L else F k) (fun k => if k = s.data.toList then v else V k) ∧ w.grownBy w' (some b) :=
  h.set0 h.map ht hn hs hL hv (fun k _ => h.row k) hap
/-- a name's list grown by an append -/
theorem MSAt.grow {w0 w : World} {B b n : Nat} {D : DataW Value} {F : List UInt8 → List α} {V : List UInt8 → Value} (h : MSAt K w0 B b n D F V) {t e : TypeId} (ht : Tryd.prog.underlying t = some (.map 9 e)) (hn : n < maxLen) {s : ByteArray} (hs : s.size ≤ maxLen) {v : Value} {L : List α} (hL : L ≠ []) (hsz : w0.heap.size ≤ w.heap.size) (hos : w.os = w0.os) (htp : w.tape = w0.tape) (hout : w.output = w0.output) (hst : ∀ k, k < w0.heap.size → (V s.data.toList).ownBlock ≠ some k → w.heap[k]? = w0.heap[k]?) (hv : w.ownsRow B K.e K.s v L.length (K.flat L)) (hloc : v.ownBlock = (V s.data.toList).ownBlock ∨ v.ownBlock = some w0.heap.size) :
    ∃ w' D', (Instr.mapUpdate t (.map (some b)) (.string s) v).run Tryd.prog w = .ok () w' ∧ MSAt K w' B b (n + 1) D' (fun k => if k = s.data.toList then L else F k) (fun k => if k = s.data.toList then v else V k) ∧ w.grownBy w' (some b) := by
  have hg : w0.grownBy w (V s.data.toList).ownBlock := ⟨hos, htp, hout, hsz, fun k hk hne => hst k hk (fun e => hne e.symm)⟩
  have hgb : some b ≠ (V s.data.toList).ownBlock := fun e => ne_map h.map (h.row s.data.toList) e.symm rfl
  have hne : ∀ k, k ≠ s.data.toList → F k ≠ [] → (V k).ownBlock ≠ (V s.data.toList).ownBlock := fun k hk hF e => by
    by_cases hFs : F s.data.toList = []
    · rw [h.nil _ hFs] at e
      obtain ⟨g, hg⟩ := row_some (h.row k) (List.length_pos_iff.2 hF)
      rw [hg] at e
      cases e
    · exact h.apart k _ hk hF hFs e
  refine h.set0 (h.map.kept hg hgb) ht hn hs hL hv (fun k hk => row_keep (h.row k) fun g hgk => ?_) (fun k hk hF e => ?_)
  · have hb := h.blk hgk
    exact hst g hb.2.1 (fun e => hne k hk hb.2.2 (by rw [hgk, e]))
  · rcases hloc with h1 | h1
    · exact hne k hk hF (by rw [e, h1])
    · obtain ⟨g, hg⟩ := row_some (h.row k) (List.length_pos_iff.2 hF)
      rw [hg, h1] at e
      have := (h.blk hg).2.1
      have := Option.some.inj e
      omega
/-- a name struck -/
theorem MSAt.del {w : World} {B b n : Nat} {D : DataW Value} {F : List UInt8 → List α} {V : List UInt8 → Value} (h : MSAt K w B b n D F V) {t e : TypeId} (ht : Tryd.prog.underlying t = some (.map 9 e)) {s : ByteArray} (hs : s.size ≤ maxLen) (ty : TypeId) :
    ∃ w' D', (Builtin.delete_ #[t, 9] ty #[.map (some b), .string s]).run Tryd.prog w = .ok (.tuple #[]) w' ∧ MSAt K w' B b n D' (fun k => if k = s.data.toList then [] else F k) (fun k => if k = s.data.toList then .slice none 0 0 else V k) ∧ w.grownBy w' (some b) := by
  obtain ⟨w', hrun, hmap, hg⟩ := h.map.drop (string_keyed Tryd.underlying9) ht (keyM hs) ty
  have hg' : w.grownBy w' (some b) := hg.grown
  refine ⟨w', D.del (.string s.data.toList), hrun, ⟨hmap, fun k => ?_, fun k => ?_, fun k => ?_, fun k hk => ?_, fun k k' hne hk hk' => ?_⟩, hg'⟩
  · by_cases e : k = s.data.toList
    · subst e; rw [atKey_del_same]; simp
    · rw [atKey_del_other (by simpa using e), h.val]; simp [e]
  · by_cases e : k = s.data.toList
    · subst e; rw [has_del_same]; simp
    · rw [has_del_other (by simpa using e), h.key]; simp [e]
  · by_cases e : k = s.data.toList
    · simp only [if_pos e]
      exact World.ownsRow_nil _ _ _ _
    · simp only [if_neg e]
      exact row_keep (h.row k) fun g hgv => hg'.block g (row_block (h.row k) hgv).2.1 (ne_map h.map (h.row k) hgv)
  · by_cases e : k = s.data.toList
    · simp only [if_pos e]
    · simp only [if_neg e] at hk ⊢; exact h.nil k hk
  · by_cases e : k = s.data.toList
    · simp only [if_pos e] at hk; exact absurd rfl hk
    · by_cases e' : k' = s.data.toList
      · simp only [if_pos e'] at hk'; exact absurd rfl hk'
      · simp only [if_neg e] at hk
        simp only [if_neg e'] at hk'
        simp only [if_neg e, if_neg e']
        exact h.apart k k' hne hk hk'
/-- a name struck -/
theorem MSAt.del0 {w0 w : World} {B b n : Nat} {D : DataW Value} {F : List UInt8 → List α} {V : List UInt8 → Value} (h : MSAt K w0 B b n D F V) (hmap0 : w.ownsMap Tryd.prog 9 sliceElem b n D) {t e : TypeId} (ht : Tryd.prog.underlying t = some (.map 9 e)) {s : ByteArray} (hs : s.size ≤ maxLen) (hrow : ∀ k, k ≠ s.data.toList → w.ownsRow B K.e K.s (V k) (F k).length (K.flat (F k))) (ty : TypeId) :
    ∃ w' D', (Builtin.delete_ #[t, 9] ty #[.map (some b), .string s]).run Tryd.prog w = .ok (.tuple #[]) w' ∧ MSAt K w' B b n D' (fun k => if k = s.data.toList then [] else F k) (fun k => if k = s.data.toList then .slice none 0 0 else V k) ∧ w.grownBy w' (some b) := by
  obtain ⟨w', hrun, hmap, hg⟩ := hmap0.drop (string_keyed Tryd.underlying9) ht (keyM hs) ty
  have hg' : w.grownBy w' (some b) := hg.grown
  refine ⟨w', D.del (.string s.data.toList), hrun, ⟨hmap, fun k => ?_, fun k => ?_, fun k => ?_, fun k hk => ?_, fun k k' hne hk hk' => ?_⟩, hg'⟩
  · by_cases e : k = s.data.toList
    · subst e; rw [atKey_del_same]; simp
    · rw [atKey_del_other (by simpa using e), h.val]; simp [e]
  · by_cases e : k = s.data.toList
    · subst e; rw [has_del_same]; simp
    · rw [has_del_other (by simpa using e), h.key]; simp [e]
  · by_cases e : k = s.data.toList
    · simp only [if_pos e]
      exact World.ownsRow_nil _ _ _ _
    · simp only [if_neg e]
      exact row_keep (hrow k e) fun g hgv => hg'.block g (row_block (hrow k e) hgv).2.1 (ne_map hmap0 (hrow k e) hgv)
  · by_cases e : k = s.data.toList
    · simp only [if_pos e]
    · simp only [if_neg e] at hk ⊢; exact h.nil k hk
  · by_cases e : k = s.data.toList
    · simp only [if_pos e] at hk; exact absurd rfl hk
    · by_cases e' : k' = s.data.toList
      · simp only [if_pos e'] at hk'; exact absurd rfl hk'
      · simp only [if_neg e] at hk
        simp only [if_neg e'] at hk'
        simp only [if_neg e, if_neg e']
        exact h.apart k k' hne hk hk'
end Go.Proofs.YtenoaechonpjgaaDoor
