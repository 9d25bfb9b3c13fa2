/- ChartTree (5): texts as elements; what the walk rests upon. -/
import Derived.Test.YtgimeecklmmbjaaDoorChV
import Derived.Test.YtgimeecklmmbjaaDoorTrN
import Derived.Deep.RegionHeld3
namespace Go.Proofs.YtgimeecklmmbjaaDoor
open Go Go.Shelf Go.ChangeShapes Go.WideShapes Go.ChangeAt Go.RowKit Go.Maps Go.Sort
set_option linter.unusedVariables false
structure Bel (w : World) where
  W : World
  h : Below w.heap.size w W
@[reducible] def belInh (w : World) : Inhabited (Bel w) := ⟨⟨w, Below.refl _ _⟩⟩
attribute [instance] belInh
theorem wp_region_quiet_below {id : Nat} {Q : Exit → Act → World → Prop} {a : Act} {w : World} {l : List Oper} (hm : Tryd.prog.follows .mixedOrders = true) (hB : Region.lexB .any l.toArray = true)
    (h : wpQuiet Tryd.prog l.toArray (fun w' => ∃ p : Bel w, w' = p.W) (fun a' => ∀ w', (∃ p : Bel w, w' = p.W) → Q .normal a' w') l a) : (Code.region id l.toArray true).wp Tryd.prog Q a w :=
  wp_region_quiet (C := fun w' => ∃ p : Bel w, w' = p.W) hm hB ⟨⟨w.drew, below_drewN (Below.refl _ w) 1⟩, rfl⟩ (by simpa using h)
/-- texts as elements -/
def kT : Kd Nm := ⟨fun x => [.string (txN x)], 1, 48, 9, 16⟩
theorem kT_ok : KdOK kT := kd_ok (fun _ => rfl) (by decide) (fun x u hu => by simp [kT] at hu; rcases hu with rfl; rfl) Tryd.underlying48 (z := .string ⟨#[]⟩) (by kernel_rfl) rfl (by decide)
theorem kT_flat (K : List Nm) : kT.flat K = K.map fun x => .string (txN x) := by
  induction K with
  | nil => rfl
  | cons a K ih =>
    have e : kT.flat (a :: K) = kT.enc a ++ kT.flat K := by simp [Kd.flat]
    rw [e, ih]
    rfl
theorem lies_txt {W : World} {p : Option Addr} {K : List Nm} (h : Lies kT W p K) {k : Nat} (hk : k < K.length) : ∃ b off, p = some ⟨b, off, none⟩ ∧ b < W.heap.size ∧ W.cell? ⟨b, off + k, none⟩ = some (.string (txN K[k])) := by
  obtain ⟨b, off, hp, hlt, hr⟩ := h.2 k hk
  have h0 := hr 0 (.string (txN K[k])) rfl
  have e : off + k * kT.s + 0 = off + k := by show off + k * 1 + 0 = _; omega
  rw [e] at h0
  exact ⟨b, off, hp, hlt, h0⟩
/-- a path, as a list that lies there -/
theorem path_lies (x : Nm) (hx : (txN x).size < 4611686018427387904) (w : World) : Calls Tryd.prog 19 #[.string (txN x)] w fun e w' => ∃ p c, e = .returned (.slice p (pathL x).length c) ∧ Lies kT w' p (pathL x) ∧ Below w.heap.size w w' := by
  refine (path_any (txN x) hx w).mono ?_
  rintro e w' ⟨v, rfl, hrow, _, hb⟩
  rw [txN_list, scells_list] at hrow
  obtain ⟨p, c, rfl, _⟩ := row_slice hrow
  refine ⟨p, c, rfl, own_lies (B := w.heap.size) kT_ok rfl (c := c) (by rw [kT_flat]; exact hrow), hb⟩
theorem lies_acc {W : World} {p : Option Addr} {L : List Ac} (h : Lies kA W p L) {k : Nat} (hk : k < L.length) : ∃ b off, p = some ⟨b, off, none⟩ ∧ b < W.heap.size ∧ W.rangeAt b (off + k * 4) (vals4 L[k]) := h.2 k hk
end Go.Proofs.YtgimeecklmmbjaaDoor
