/- Rows of texts. -/
import Derived.Test.YtcafhmlpmbkhkaaGreatDoorPthN
import Derived.Laws.AppendOwn
import Derived.Laws.AppendOwnNone
import Derived.Laws.OwnMore
import Derived.Deep.AppendLies
import Derived.Deep.MidRow
import Derived.Laws.MakeOwn
import Derived.Maps.AppendAt
namespace Go.Proofs.YtcafhmlpmbkhkaaGreatDoor
open Go Go.ChangeShapes Go.WideShapes Go.ChangeAt Go.RowKit
set_option linter.unusedVariables false
theorem setCell_drewN (w : World) (n : Nat) (a : Addr) (v : Value) : (w.drewN n).setCell a v = (w.setCell a v).drewN n := rfl
theorem alloc_drewN (w : World) (n : Nat) (o : Obj) : (w.drewN n).alloc o = (w.alloc o).drewN n := rfl
theorem bal {w W : World} (h : Below w.heap.size w W) (o : Obj) : Below w.heap.size w (W.alloc o) := h.alloc h.size o
theorem below_drewN {B : Nat} {a w : World} (h : Below B a w) (n : Nat) : Below B a (w.drewN n) := ⟨h.os, h.tape, h.output, h.size, h.block⟩
theorem step_below {B : Nat} {a W w1 : World} (h : Below B a W) (hB : B ≤ a.heap.size) (hb : Below W.heap.size W w1) : Below B a w1 := h.trans (hb.mono (Nat.le_trans hB h.size))
theorem keep1 {W w1 : World} (hb : Below W.heap.size W w1) {b o : Nat} {v : Value} (h : b < W.heap.size) (hv : W.cell? ⟨b, o, none⟩ = some v) : w1.cell? ⟨b, o, none⟩ = some v := (hb.cell (p := ⟨b, o, none⟩) h).trans hv
theorem keepF {W w1 : World} (hb : Below W.heap.size W w1) {b o : Nat} {v : Bool} (h : b < W.heap.size) (hv : W.frozen? ⟨b, o, none⟩ = v) : w1.frozen? ⟨b, o, none⟩ = v := (hb.frozen (p := ⟨b, o, none⟩) h).trans hv
theorem drew_two (w : World) (m n : Nat) : (w.drewN m).drewN n = w.drewN (m + n) := World.drewN_drewN w m n
theorem info9 : (Tryz.prog.info? 9).map (fun i => (i.zero, i.size, i.bytes)) = some (some (.string ⟨#[]⟩), 1, 16) := by kernel_rfl
theorem info_parts {t : TypeId} {z : Value} {a b : Nat} (h : (Tryz.prog.info? t).map (fun i => (i.zero, i.size, i.bytes)) = some (some z, a, b)) : ∃ i, Tryz.prog.info? t = some i ∧ i.zero = some z ∧ i.size = a ∧ i.bytes = b := by
  obtain ⟨i, hi, hz⟩ := Option.map_eq_some_iff.1 h
  simp only [Prod.mk.injEq] at hz
  exact ⟨i, hi, hz.1, hz.2.1, hz.2.2⟩
theorem own_open {w : World} {base size n : Nat} {e : TypeId} {v : Value} {xs : List Value} (h : w.ownsRow base e size v n xs) (hn : 0 < n) : ∃ g c, v = .slice (some ⟨g, 0, none⟩) n c := by
  rcases h.2 with ⟨_, h0⟩ | ⟨g, cap, cur, rfl, _⟩
  · omega
  · exact ⟨g, cap, rfl⟩
theorem cell_one_new (w : World) (v : Value) (t : TypeId) : ∀ j u, ([v] : List Value)[j]? = some u → (w.alloc (.cells #[v] t)).cell? ((⟨w.heap.size, 0, none⟩ : Addr).add j) = some u := by
  intro j u hj
  rw [Addr.add_mid, Nat.zero_add, World.cell?_alloc_mark]
  simpa using hj
theorem one_one (s : ByteArray) : ∀ u ∈ ([.string s] : List Value), u.oneCell' = true := by
  intro u hu
  simp at hu
  subst hu
  rfl
/-- texts as cells -/
def scells (f : Nat → ByteArray) (n : Nat) : List Value := (List.range n).map fun i => .string (f i)
theorem scells_len (f : Nat → ByteArray) (n : Nat) : (scells f n).length = n := by simp [scells]
theorem scells_succ (f : Nat → ByteArray) (n : Nat) : scells f (n + 1) = scells f n ++ [.string (f n)] := by simp [scells, List.range_succ]
theorem scells_get (f : Nat → ByteArray) (n j : Nat) (h : j < n) : (scells f n)[j]? = some (.string (f j)) := by simp [scells, h]
theorem scells_get' {f : Nat → ByteArray} {n j : Nat} {u : Value} (h : (scells f n)[j]? = some u) : j < n ∧ u = .string (f j) := by
  by_cases hj : j < n
  · rw [scells_get f n j hj] at h
    exact ⟨hj, (Option.some.inj h).symm⟩
  · rw [List.getElem?_eq_none (by rw [scells_len]; omega)] at h
    cases h
theorem scells_one (f : Nat → ByteArray) (n : Nat) : ∀ u ∈ scells f n, u.oneCell' = true := by
  intro u hu
  simp only [scells, List.mem_map] at hu
  obtain ⟨i, _, rfl⟩ := hu
  rfl
theorem scells_ext {f g : Nat → ByteArray} (n : Nat) (h : ∀ i, i < n → f i = g i) : scells f n = scells g n := by
  induction n with
  | zero => rfl
  | succ n ih => rw [scells_succ, scells_succ, ih (fun i hi => h i (by omega)), h n (by omega)]
/-- one behind the other -/
def cat {α : Type} (f : Nat → α) (n : Nat) (g : Nat → α) : Nat → α := fun i => if i < n then f i else g (i - n)
theorem cat_lt {α : Type} {f g : Nat → α} {n i : Nat} (h : i < n) : cat f n g i = f i := by simp [cat, h]
theorem cat_ge {α : Type} {f g : Nat → α} {n : Nat} (i : Nat) : cat f n g (n + i) = g i := by
  have : ¬ n + i < n := by omega
  simp only [cat, if_neg this, Nat.add_sub_cancel_left]
/-- a list of texts as a row -/
def fOf (l : List (List UInt8)) : Nat → ByteArray := fun i => ⟨(l.getD i []).toArray⟩
theorem scells_list (l : List (List UInt8)) : scells (fOf l) l.length = l.map fun x => .string ⟨x.toArray⟩ := by
  apply List.ext_getElem?
  intro j
  by_cases hj : j < l.length
  · rw [scells_get _ _ _ hj]
    simp [fOf, hj, List.getD]
  · rw [List.getElem?_eq_none (by rw [scells_len]; omega), List.getElem?_eq_none (by simp; omega)]
/-- a slice that shows so many texts -/
def TLies (f : Nat → ByteArray) (v : Value) (n : Nat) (W : World) : Prop :=
  (n = 0 ∧ v = .slice none 0 0) ∨ ∃ b cap, v = .slice (some ⟨b, 0, none⟩) n cap ∧ b < W.heap.size ∧ ∀ k, k < n → W.cell? ⟨b, k, none⟩ = some (.string (f k))
theorem TLies.below {f : Nat → ByteArray} {v : Value} {n : Nat} {w w' : World} (h : TLies f v n w) (hb : Below w.heap.size w w') : TLies f v n w' := by
  rcases h with h | ⟨b, cap, h1, h2, h3⟩
  · exact .inl h
  · exact .inr ⟨b, cap, h1, Nat.lt_of_lt_of_le h2 hb.size, fun k hk => keep1 hb h2 (h3 k hk)⟩
theorem TLies.of_own {B n : Nat} {f : Nat → ByteArray} {v : Value} {w : World} (h : w.ownsRow B 9 1 v n (scells f n)) : TLies f v n w := by
  rcases h.2 with ⟨h1, h2⟩ | ⟨g, cap, cur, rfl, hb, _⟩
  · exact .inl ⟨h2, h1⟩
  · refine .inr ⟨g, cap, rfl, (h.lt g rfl).2, fun k hk => ?_⟩
    rw [h.cellAt k (by omega)]
    exact scells_get f n k hk
theorem grown_of_below {w w' : World} (h : Below w.heap.size w w') : w.grownBy w' none := ⟨h.os, h.tape, h.output, h.size, fun k hk _ => h.block k hk⟩
theorem below_of_grown {w w' : World} (h : w.grownBy w' none) : Below w.heap.size w w' := ⟨h.os, h.tape, h.output, h.size, fun k hk => h.block k hk (by simp)⟩
theorem own_below {w w' : World} {base size n : Nat} {e : TypeId} {v : Value} {xs : List Value} (h : w.ownsRow base e size v n xs) (hb : Below w.heap.size w w') : w'.ownsRow base e size v n xs :=
  h.kept (grown_of_below hb) (by cases hv : v.ownBlock <;> simp)
end Go.Proofs.YtcafhmlpmbkhkaaGreatDoor
