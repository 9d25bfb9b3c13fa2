/- daily: the map of tails. -/
import Derived.Test.YtenoaechonpjgaaDoorDlG
namespace Go.Proofs.YtenoaechonpjgaaDoor
open Go Go.ChangeShapes Go.WideShapes Go.ChangeAt Go.RowKit Go.Maps
set_option linter.unusedVariables false
/-- an element of two cells, held as it is -/
def tailElem : Value → Option (DataW Value × List MemPlace)
  | .agg a => match a.toList with
    | [.int .i64 st, .slice p n c] => some (.held (.agg #[.int .i64 st, .slice p n c]), [])
    | _ => none
  | _ => none
theorem tailElem_mk (st : Int) (p : Option Addr) (n c : Nat) : tailElem (.agg #[.int .i64 st, .slice p n c]) = some (.held (.agg #[.int .i64 st, .slice p n c]), []) := rfl
theorem tailElem_inv {v : Value} {y : DataW Value × List MemPlace} (h : tailElem v = some y) : ∃ st p n c, v = .agg #[.int .i64 st, .slice p n c] ∧ y = (.held v, []) := by
  unfold tailElem at h
  split at h
  · next a =>
    split at h
    · next st p n c heq =>
      obtain ⟨l⟩ := a
      simp only at heq
      subst heq
      injection h with h
      exact ⟨st, p, n, c, rfl, h.symm⟩
    · cases h
  · cases h
/-- a map from names to tails: each tail's marks are in the hand of the map alone -/
structure TLAt (w : World) (B b n : Nat) (D : DataW Value) (P : List UInt8 → Option (Nat × List Mk)) (V : List UInt8 → Value) : Prop where
  map : w.ownsMap Tryd.prog 9 tailElem b n D
  val : ∀ k st R, P k = some (st, R) → ∀ z, D.atKey (.string k) z = .held (.agg #[.int .i64 (st : Int), V k])
  key : ∀ k, Maps.has D (.string k) = true ↔ P k ≠ none
  row : ∀ k st R, P k = some (st, R) → w.ownsRow B 82 3 (V k) R.length (kM.flat R)
  apart : ∀ k k', k ≠ k' → P k ≠ none → P k' ≠ none → ∀ g, (V k).ownBlock = some g → (V k').ownBlock ≠ some g
theorem TLAt.made (w : World) (B : Nat) : TLAt (w.alloc (.map #[] 0)) B w.heap.size 0 (.map []) (fun _ => none) (fun _ => .slice none 0 0) where
  map := World.ownsMap_made w _ _ _
  val k st R h := by cases h
  key k := by simp [has_eq]
  row k st R h := by cases h
  apart k k' _ h := by simp at h
theorem TLAt.keep {w w' : World} {B b n : Nat} {D : DataW Value} {P : List UInt8 → Option (Nat × List Mk)} {V : List UInt8 → Value} (h : TLAt w B b n D P V) (hm : w'.ownsMap Tryd.prog 9 tailElem b n D) (hr : ∀ k, P k ≠ none → ∀ g, (V k).ownBlock = some g → w'.heap[g]? = w.heap[g]?) : TLAt w' B b n D P V :=
  ⟨hm, h.val, h.key, (fun k st R hk => row_keep (h.row k st R hk) (hr k (by rw [hk]; simp))), h.apart⟩
theorem TLAt.below {w w' : World} {B b n : Nat} {D : DataW Value} {P : List UInt8 → Option (Nat × List Mk)} {V : List UInt8 → Value} (h : TLAt w B b n D P V) (hb : Below w.heap.size w w') : TLAt w' B b n D P V :=
  h.keep (h.map.kept (grown_of_below hb) (fun e => by cases e)) (fun k hk g hg => by
    cases hq : P k with
    | none => exact absurd hq hk
    | some y => exact hb.block g (row_block (h.row k y.1 y.2 hq) hg).2.1)
theorem ne_mapT {w : World} {B e s n b nn : Nat} {v : Value} {xs : List Value} {D : DataW Value} (hm : w.ownsMap Tryd.prog 9 tailElem b nn D) (hv : w.ownsRow B e s v n xs) {g : Nat} (hg : v.ownBlock = some g) : some g ≠ some b := fun h => by
  obtain ⟨_, _, o, ho, hc⟩ := row_block hv hg
  obtain ⟨es, clock, hb, _⟩ := hm
  rw [Option.some.inj h, hb] at ho
  cases ho
  cases hc
/-- a name's tail written -/
theorem TLAt.set {w : World} {B b n : Nat} {D : DataW Value} {P : List UInt8 → Option (Nat × List Mk)} {V : List UInt8 → Value} (h : TLAt w B b n D P V) (hn : n < maxLen) {s : ByteArray} (hs : s.size ≤ maxLen) (hnew : P s.data.toList = none) {st : Nat} {R : List Mk} {v : Value} (hv : w.ownsRow B 82 3 v R.length (kM.flat R)) (hap : ∀ k, P k ≠ none → ∀ g, (V k).ownBlock = some g → v.ownBlock ≠ some g) :
    ∃ w' D', (Instr.mapUpdate 50 (.map (some b)) (.string s) (.agg #[.int .i64 (st : Int), v])).run Tryd.prog w = .ok () w' ∧ TLAt w' B b (n + 1) D' (fun k => if k = s.data.toList then some (st, R) else P k) (fun k => if k = s.data.toList then v else V k) ∧ w.grownBy w' (some b) := by
  obtain ⟨pv, cv, hv', _⟩ := row_slice hv
  obtain ⟨w', hrun, hmap, hg⟩ := h.map.update (val := .agg #[.int .i64 (st : Int), v]) (d := .held (.agg #[.int .i64 (st : Int), v])) (ps := []) (string_keyed Tryd.underlying9) (t := 50) (e := 57) Tryd.underlying50 hn (keyM hs) (by rw [hv']; rfl)
  refine ⟨w', D.put (.string s.data.toList) (.held (.agg #[.int .i64 (st : Int), v])), hrun, ⟨hmap, fun k st' R' hk z => ?_, fun k => ?_, fun k st' R' hk => ?_, fun k k' hne hk hk' g hgk => ?_⟩, hg⟩
  · by_cases e : k = s.data.toList
    · simp only [if_pos e] at hk ⊢
      cases hk
      subst e
      rw [atKey_put_same h.map.isMap (by trivial)]
    · simp only [if_neg e] at hk ⊢
      rw [atKey_put_other (by simpa using e)]
      exact h.val k st' R' hk z
  · by_cases e : k = s.data.toList
    · subst e; rw [has_put_same h.map.isMap (by trivial)]; simp
    · rw [has_put_other (by simpa using e), h.key]; simp [e]
  · by_cases e : k = s.data.toList
    · simp only [if_pos e] at hk ⊢
      cases hk
      exact row_keep hv fun g hgv => hg.block g (row_block hv hgv).2.1 (ne_mapT h.map hv hgv)
    · simp only [if_neg e] at hk ⊢
      exact row_keep (h.row k st' R' hk) fun g hgv => hg.block g (row_block (h.row k st' R' hk) hgv).2.1 (ne_mapT h.map (h.row k st' R' hk) hgv)
  · by_cases e : k = s.data.toList
    · have e' : k' ≠ s.data.toList := fun e2 => hne (by rw [e, e2])
      simp only [if_pos e] at hgk
      simp only [if_neg e'] at hk' ⊢
      exact fun h2 => hap k' hk' g h2 hgk
    · simp only [if_neg e] at hk hgk
      by_cases e' : k' = s.data.toList
      · simp only [if_pos e']
        exact hap k hk g hgk
      · simp only [if_neg e'] at hk' ⊢
        exact h.apart k k' hne hk hk' g hgk
end Go.Proofs.YtenoaechonpjgaaDoor
