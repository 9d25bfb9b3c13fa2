import Derived.Test.YtddpladmkmpoaabDoorParE
import Derived.Test.YtddpladmkmpoaabDoorParS
namespace Go.Proofs.YtddpladmkmpoaabDoor
open Go.ChangeShapes Go.WideShapes Go.ChangeAt Go.RowKit
set_option linter.unusedVariables false
theorem rparse_any (L : List UInt8) (D : Nat) (w : World) (hD : D ≤ 6) (hL : L.length ≤ 40) :
    Calls Tryd.prog 17 #[.string ⟨L.toArray⟩, .int .i64 D] w fun e w' => e = .returned (.tuple #[.int .i64 (parSpec L D).1, .int .i64 (parSpec L D).2]) ∧ Below w.heap.size w w' := by
  cases L with
  | nil =>
    have e : parSpec [] D = (0, 12) := parSpec_none (by
      unfold pN
      rw [if_neg]
      rintro ⟨⟨_, h⟩, _⟩
      exact h rfl)
    rw [e]
    exact rparse_nil D w hD
  | cons c r =>
    by_cases h : c.toNat = 45
    · exact rparse_neg c r D w hD hL h
    · refine rparse_pos (c :: r) D w hD hL (by simp) ?_
      have : ¬ c = 45 := by intro e; rw [e] at h; exact h rfl
      simp [minusB, this]
theorem parses_walk (s : ByteArray) (d : Int) (w : World) (m : Int) (hm : w.cell? ⟨2, 0, none⟩ = some (.int .i64 m)) (ev : Value) (hv : w.cell? ⟨4, 0, none⟩ = some ev) (hev : ev = .nilIface ∨ ∃ te pe, ev = .iface te pe) :
    Calls Tryd.prog 5 #[.string s, .int .i64 d] w fun e w' => e = .returned (.bool true) ∧ Below w.heap.size w w' := by
  by_cases hd : d < 0 ∨ 6 < d
  · refine parses_with s d 0 1 w ((mparse_arg s d w hd).mono ?_) (fun W => (rparse_arg s d W hd).mono ?_)
    · rintro e w' ⟨h, rfl⟩
      exact ⟨h, Below.refl _ _⟩
    · rintro e w' ⟨h, rfl⟩
      exact ⟨h, Below.refl _ _⟩
  · obtain ⟨D, rfl⟩ : ∃ D : Nat, d = D := ⟨d.toNat, by omega⟩
    obtain ⟨L, hL⟩ : ∃ L : List UInt8, s = ⟨L.toArray⟩ := ⟨s.data.toList, by simp⟩
    subst hL
    by_cases hl : 40 < L.length
    · refine parses_with _ D 0 12 w ((mparse_long L D w (by omega) hl).mono ?_) (fun W => (rparse_long L D W (by omega) hl).mono ?_)
      · rintro e w' ⟨h, rfl⟩
        exact ⟨h, Below.refl _ _⟩
      · rintro e w' ⟨h, rfl⟩
        exact ⟨h, Below.refl _ _⟩
    · exact parses_with _ D _ _ w (mparse_any L D w (by omega) (by omega) m hm ev hv hev) (fun W => rparse_any L D W (by omega) (by omega))
end Go.Proofs.YtddpladmkmpoaabDoor
