/- aged: the view in memory. -/
import Derived.Test.YtildpgfhahmgmaaDoorAgR
import Derived.Test.YtildpgfhahmgmaaDoorAgN
import Derived.Test.YtildpgfhahmgmaaDoorHpN
import Derived.Maps.OwnSet
import Derived.Maps.OwnOps
import Derived.Maps.OwnRows
namespace Go.Proofs.YtildpgfhahmgmaaDoor
open Go Go.Shelf Go.ChangeShapes Go.WideShapes Go.ChangeAt Go.RowKit Go.Maps
set_option linter.unusedVariables false
/-- an allotment -/
structure Al where
  pay : ByteArray
  inv : ByteArray
  day : Int
  amt : Int
def Cl.vals (c : Cl) : List Value := [.string c.key, .string c.acc, .int .i64 c.day, .int .i64 c.due, .int .i64 c.amt]
def Al.vals (a : Al) : List Value := [.string a.pay, .string a.inv, .int .i64 a.day, .int .i64 a.amt]
def ptr (p : Nat) : Value := .pointer (some ⟨p, 0, none⟩)
def kP : Kd Nat := ⟨fun p => [ptr p], 1, 77, 84, 8⟩
def kA : Kd Al := ⟨Al.vals, 4, 25, 51, 48⟩
def kT : Kd (Int × Nat) := ⟨fun x => [.int .i64 x.1, ptr x.2], 2, 81, 86, 16⟩
def kQ : Kd (Int × Int) := ⟨fun x => [.int .i64 x.1, .int .i64 x.2], 2, 97, 105, 16⟩
def kC : Kd Cl := ⟨Cl.vals, 5, 23, 37, 56⟩
def kI : Kd Int := ⟨fun x => [.int .i64 x], 1, 57, 3, 8⟩
theorem kP_ok : KdOK kP := kd_ok (fun _ => rfl) (by decide) (fun x u hu => by simp [kP] at hu; subst hu; rfl) Tryd.underlying77 (z := .pointer none) (by kernel_rfl) rfl (by decide)
theorem kA_ok : KdOK kA := kd_ok (fun _ => rfl) (by decide) (fun x u hu => by simp [kA, Al.vals] at hu; rcases hu with rfl | rfl | rfl | rfl <;> rfl) Tryd.underlying25 (z := .agg #[.string ⟨#[]⟩, .string ⟨#[]⟩, .int .i64 0, .int .i64 0]) (by kernel_rfl) rfl (by decide)
theorem kT_ok : KdOK kT := kd_ok (fun _ => rfl) (by decide) (fun x u hu => by simp [kT] at hu; rcases hu with rfl | rfl <;> rfl) Tryd.underlying81 (z := .agg #[.int .i64 0, .pointer none]) (by kernel_rfl) rfl (by decide)
theorem kQ_ok : KdOK kQ := kd_ok (fun _ => rfl) (by decide) (fun x u hu => by simp [kQ] at hu; rcases hu with rfl | rfl <;> rfl) Tryd.underlying97 (z := .agg #[.int .i64 0, .int .i64 0]) (by kernel_rfl) rfl (by decide)
theorem kC_ok : KdOK kC := kd_ok (fun _ => rfl) (by decide) (fun x u hu => by simp [kC, Cl.vals] at hu; rcases hu with rfl | rfl | rfl | rfl | rfl <;> rfl) Tryd.underlying23 (z := .agg #[.string ⟨#[]⟩, .string ⟨#[]⟩, .int .i64 0, .int .i64 0, .int .i64 0]) (by kernel_rfl) rfl (by decide)
theorem kI_ok : KdOK kI := kd_ok (fun _ => rfl) (by decide) (fun x u hu => by simp [kI] at hu; subst hu; rfl) Tryd.underlying57 (z := .int .i64 0) (by kernel_rfl) rfl (by decide)
/-- the type of a block of cells -/
def tyAt (W : World) (b : Nat) : Option TypeId := match W.heap[b]? with
  | some (.cells _ t _) => some t
  | _ => none
theorem ty_of {W : World} {b : Nat} {xs : Array Value} {t : TypeId} {f : Nat × Nat} (h : W.heap[b]? = some (.cells xs t f)) : tyAt W b = some t := by unfold tyAt; rw [h]
theorem ty_lt {W : World} {b : Nat} {t : TypeId} (h : tyAt W b = some t) : b < W.heap.size := by
  rcases Nat.lt_or_ge b W.heap.size with h' | h'
  · exact h'
  · unfold tyAt at h
    rw [Array.getElem?_eq_none h'] at h
    cases h
theorem heap_lt {W : World} {b : Nat} {o : Obj} (h : W.heap[b]? = some o) : b < W.heap.size := (Array.getElem?_eq_some_iff.1 h).1
theorem row_ty {W : World} {B e s n g : Nat} {v : Value} {xs : List Value} (h : W.ownsRow B e s v n xs) (hg : v.ownBlock = some g) : tyAt W g = some e := by
  rcases h.2 with ⟨e, h2⟩ | ⟨g', cap, cur, e, hB, hh, h3⟩
  · rw [e] at hg; cases hg
  · rw [e] at hg
    have e2 : g' = g := Option.some.inj hg
    subst e2
    exact ty_of hh
/-- all blocks of a type are as they were -/
def SameT (W W' : World) (t : TypeId) : Prop := ∀ b, tyAt W b = some t → W'.heap[b]? = W.heap[b]?
theorem row_same {W W' : World} {B e s n : Nat} {v : Value} {xs : List Value} (h : W.ownsRow B e s v n xs) (hs : SameT W W' e) : W'.ownsRow B e s v n xs := row_keep h fun g hg => hs g (row_ty h hg)
/-- maps from names to pointers -/
def optp : Option Nat → Value
  | none => .pointer none
  | some p => ptr p
def ptrElem : Value → Option (DataW Value × List MemPlace)
  | .pointer p => some (.held (.pointer p), [])
  | _ => none
theorem ptrElem_opt (o : Option Nat) : ptrElem (optp o) = some (.held (optp o), []) := by cases o <;> rfl
theorem ptrElem_inv {v : Value} {y : DataW Value × List MemPlace} (h : ptrElem v = some y) : y = (.held v, []) := by
  unfold ptrElem at h
  split at h
  · injection h with h; exact h.symm
  · cases h
structure PMAt (w : World) (b n : Nat) (F : List UInt8 → Option Nat) : Prop where
  map : ∃ D, w.ownsMap Tryd.prog 9 ptrElem b n D ∧ ∀ k, D.atKey (.string k) (.held (.pointer none)) = .held (optp (F k))
theorem keyM {s : ByteArray} (hs : s.size ≤ maxLen) : keyOf Tryd.prog 9 (.string s) = some (.string s.data.toList) := by
  simp [keyOf, mapKey, Tryd.underlying9, hs]
theorem PMAt.made (w : World) : PMAt (w.alloc (.map #[] 0)) w.heap.size 0 (fun _ => none) := ⟨_, World.ownsMap_made w _ _ _, fun k => rfl⟩
theorem PMAt.keep {w w' : World} {b n : Nat} {F : List UInt8 → Option Nat} (h : PMAt w b n F) (hb : w'.heap[b]? = w.heap[b]?) : PMAt w' b n F := by
  obtain ⟨D, ⟨es, clock, h1, r⟩, h2⟩ := h.map
  exact ⟨D, ⟨es, clock, hb.trans h1, r⟩, h2⟩
theorem PMAt.mono {w : World} {b n m : Nat} {F : List UInt8 → Option Nat} (h : PMAt w b n F) (hm : n ≤ m) : PMAt w b m F := by
  obtain ⟨D, h1, h2⟩ := h.map
  exact ⟨D, h1.mono hm, h2⟩
theorem PMAt.block {w : World} {b n : Nat} {F : List UInt8 → Option Nat} (h : PMAt w b n F) : ∃ es clock, w.heap[b]? = some (.map es clock) := by
  obtain ⟨D, ⟨es, clock, h1, r⟩, h2⟩ := h.map
  exact ⟨es, clock, h1⟩
theorem PMAt.ty {w : World} {b n : Nat} {F : List UInt8 → Option Nat} (h : PMAt w b n F) : tyAt w b = none := by
  obtain ⟨es, clock, h1⟩ := h.block
  unfold tyAt
  rw [h1]
set_option maxRecDepth 100000 in
theorem PMAt.look {w : World} {b n : Nat} {F : List UInt8 → Option Nat} (h : PMAt w b n F) {t e : TypeId} (ht : Tryd.prog.underlying t = some (.map 9 e)) (hz : (zeroValue e).run Tryd.prog w = .ok (.pointer none) w) {s : ByteArray} (hs : s.size ≤ maxLen) :
    (Instr.lookup t (.map (some b)) (.string s) false).run Tryd.prog w = .ok (optp (F s.data.toList)) w := by
  obtain ⟨D, hm, hv⟩ := h.map
  obtain ⟨v, ps, hrun, hR⟩ := hm.lookup (string_keyed Tryd.underlying9) ht hz (zd := .held (.pointer none)) (zp := []) rfl (keyM hs)
  rw [hv] at hR
  have e := ptrElem_inv hR
  have e2 : DataW.held (optp (F s.data.toList)) = DataW.held v := congrArg Prod.fst e
  injection e2 with e2
  rw [e2]
  exact hrun
theorem PMAt.set {w : World} {b n : Nat} {F : List UInt8 → Option Nat} (h : PMAt w b n F) {t e : TypeId} (ht : Tryd.prog.underlying t = some (.map 9 e)) (hn : n < maxLen) {s : ByteArray} (hs : s.size ≤ maxLen) (p : Nat) :
    ∃ w', (Instr.mapUpdate t (.map (some b)) (.string s) (ptr p)).run Tryd.prog w = .ok () w' ∧ PMAt w' b (n + 1) (fun k => if k = s.data.toList then some p else F k) ∧ w.grownBy w' (some b) := by
  obtain ⟨D, hm, hv⟩ := h.map
  obtain ⟨w', hrun, hmap, hg⟩ := hm.update (val := ptr p) (d := .held (ptr p)) (ps := []) (string_keyed Tryd.underlying9) ht hn (keyM hs) rfl
  refine ⟨w', hrun, ⟨D.put (.string s.data.toList) (.held (ptr p)), hmap, fun k => ?_⟩, hg⟩
  by_cases e : k = s.data.toList
  · subst e; rw [atKey_put_same hm.isMap (by trivial)]; simp [optp]
  · rw [atKey_put_other (by simpa using e), hv]; simp [e]
end Go.Proofs.YtildpgfhahmgmaaDoor
