import Derived.Test.YtddpladmkmpoaaaDoorTxtD
namespace Go.Proofs.YtddpladmkmpoaaaDoor
open Go.ChangeShapes Go.WideShapes Go.ChangeAt Go.RowKit
set_option linter.unusedVariables false

def prS (a d : Int) : ByteArray := (if d < 0 ∨ 6 < d then (⟨#[]⟩, 1) else if a = -9223372036854775808 then (⟨#[]⟩, 10) else (⟨(txt a d.toNat).toArray⟩, 0) : ByteArray × Int).1
def prC (a d : Int) : Int := (if d < 0 ∨ 6 < d then (⟨#[]⟩, 1) else if a = -9223372036854775808 then (⟨#[]⟩, 10) else (⟨(txt a d.toNat).toArray⟩, 0) : ByteArray × Int).2
theorem mprint_all (a d : Int) (w : World) (h1 : -9223372036854775808 ≤ a) (h2 : a ≤ 9223372036854775807) (htab : Lib.TabIs Tryd.prog w "internal/strconv.uint64pow10" .u64 Lib.pow10Tab) :
    Calls Tryd.prog 5 #[.int .i64 a, .int .i64 d] w fun e w' => e = .returned (.tuple #[.string (prS a d), .int .i64 (prC a d)]) ∧ Below w.heap.size w w' := by
  by_cases hd : d < 0 ∨ 6 < d
  · refine (mprint_arg a d w hd).mono ?_
    rintro e w' ⟨rfl, rfl⟩
    exact ⟨by simp [prS, prC, hd], Below.refl _ _⟩
  · by_cases ha : a = -9223372036854775808
    · subst ha
      refine (mprint_min d w (by omega) (by omega)).mono ?_
      rintro e w' ⟨rfl, rfl⟩
      exact ⟨by simp [prS, prC, hd], Below.refl _ _⟩
    · obtain ⟨n, rfl⟩ : ∃ n : Nat, d = n := ⟨d.toNat, by omega⟩
      refine (mprint_any a n w (by omega) h2 (by omega) htab).mono ?_
      rintro e w' ⟨rfl, hb⟩
      exact ⟨by simp [prS, prC, hd, ha], hb⟩
theorem rprint_all (a d : Int) (w : World) (h1 : -9223372036854775808 ≤ a) (h2 : a ≤ 9223372036854775807) :
    Calls Tryd.prog 6 #[.int .i64 a, .int .i64 d] w fun e w' => e = .returned (.tuple #[.string (prS a d), .int .i64 (prC a d)]) ∧ Below w.heap.size w w' := by
  by_cases hd : d < 0 ∨ 6 < d
  · refine (rprint_arg a d w hd).mono ?_
    rintro e w' ⟨rfl, rfl⟩
    exact ⟨by simp [prS, prC, hd], Below.refl _ _⟩
  · by_cases ha : a = -9223372036854775808
    · subst ha
      refine (rprint_min d w (by omega) (by omega)).mono ?_
      rintro e w' ⟨rfl, rfl⟩
      exact ⟨by simp [prS, prC, hd], Below.refl _ _⟩
    · obtain ⟨n, rfl⟩ : ∃ n : Nat, d = n := ⟨d.toNat, by omega⟩
      refine (rprint_any a n w (by omega) h2 (by omega)).mono ?_
      rintro e w' ⟨rfl, hb⟩
      exact ⟨by simp [prS, prC, hd, ha], hb⟩
theorem ret_b {p q : Bool} (h : p = q) : Ending.returned (.bool p) = .returned (.bool q) := by rw [h]
set_option maxRecDepth 100000 in
set_option maxHeartbeats 2000000 in
theorem walk (a d : Int) (w : World) (h1 : -9223372036854775808 ≤ a) (h2 : a ≤ 9223372036854775807) (htab : Lib.TabIs Tryd.prog w "internal/strconv.uint64pow10" .u64 Lib.pow10Tab) :
    Calls Tryd.prog 3 #[.int .i64 a, .int .i64 d] w fun e w' => e = .returned (.bool true) ∧ Below w.heap.size w w' := by
  obtain ⟨S, hS⟩ : ∃ S, prS a d = S := ⟨_, rfl⟩
  obtain ⟨C, hC⟩ : ∃ C, prC a d = C := ⟨_, rfl⟩
  have m := mprint_all a d w h1 h2 htab
  have r := fun w => rprint_all a d w h1 h2
  rw [hS, hC] at m
  simp only [hS, hC] at r
  clear hS hC
  go_enter Tryd.func3, Tryd.ntmps3
  go_wp2_with fail
  refine m.mono ?_
  rintro e w1 ⟨rfl, hb1⟩
  go_wp2_with fail
  refine (r _).mono ?_
  rintro e w2 ⟨rfl, hb2⟩
  go_wp2
  go_ret
  exact ⟨ret_b (by simp), hb1.trans (hb2.mono hb1.size)⟩
end Go.Proofs.YtddpladmkmpoaaaDoor
