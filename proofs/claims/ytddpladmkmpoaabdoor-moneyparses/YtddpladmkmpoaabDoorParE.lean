import Derived.Test.YtddpladmkmpoaabDoorParR
namespace Go.Proofs.YtddpladmkmpoaabDoor
open Go.ChangeShapes Go.WideShapes Go.ChangeAt Go.RowKit
set_option linter.unusedVariables false
set_option maxHeartbeats 1000000 in
theorem rparse_arg (s : ByteArray) (d : Int) (w : World) (h : d < 0 ∨ 6 < d) : Calls Tryd.prog 17 #[.string s, .int .i64 d] w fun e w' => e = .returned (.tuple #[.int .i64 0, .int .i64 1]) ∧ w' = w := by
  rcases h with h | h
  all_goals
    go_enter Tryd.func17, Tryd.ntmps17
    go_wp2
    go_ret2
    exact ⟨rfl, rfl⟩
set_option maxHeartbeats 1000000 in
theorem rparse_long (L : List UInt8) (D : Nat) (w : World) (hD : D ≤ 6) (hL : 40 < L.length) : Calls Tryd.prog 17 #[.string ⟨L.toArray⟩, .int .i64 D] w fun e w' => e = .returned (.tuple #[.int .i64 0, .int .i64 12]) ∧ w' = w := by
  have hz := sizeL L
  have hI : (40 : Int) < (L.length : Int) := by omega
  go_enter Tryd.func17, Tryd.ntmps17
  go_wp2
  go_ret2
  exact ⟨rfl, rfl⟩
set_option maxRecDepth 100000 in
set_option maxHeartbeats 2000000 in
theorem rparse_nil (D : Nat) (w : World) (hD : D ≤ 6) : Calls Tryd.prog 17 #[.string ⟨#[]⟩, .int .i64 D] w fun e w' => e = .returned (.tuple #[.int .i64 0, .int .i64 12]) ∧ Below w.heap.size w w' := by
  go_enter Tryd.func17, Tryd.ntmps17
  go_wp2
  refine wp_loop_rounds 1 ?_
  rw [rounds_succ]
  go_wp2
  go_ret2
  exact ⟨rfl, bal (Below.refl _ _) _⟩
set_option maxHeartbeats 1000000 in
theorem parses_with (s : ByteArray) (d p q : Int) (w : World) (A : Calls Tryd.prog 16 #[.string s, .int .i64 d] w fun e w' => e = .returned (.tuple #[.int .i64 p, .int .i64 q]) ∧ Below w.heap.size w w')
    (B : ∀ W, Calls Tryd.prog 17 #[.string s, .int .i64 d] W fun e w' => e = .returned (.tuple #[.int .i64 p, .int .i64 q]) ∧ Below W.heap.size W w') :
    Calls Tryd.prog 5 #[.string s, .int .i64 d] w fun e w' => e = .returned (.bool true) ∧ Below w.heap.size w w' := by
  have A := hide A
  have B := hide B
  go_enter Tryd.func5, Tryd.ntmps5
  go_wp2_with fail
  refine (unhide A).mono ?_
  rintro e w1 ⟨rfl, hb1⟩
  have B1 := hide hb1
  clear hb1
  go_wp2_with fail
  refine (unhide B _).mono ?_
  rintro e w2 ⟨rfl, hb2⟩
  have B2 := hide ((unhide B1).trans (hb2.mono (unhide B1).size))
  clear hb2
  go_wp2
  go_ret
  exact ⟨rfl, unhide B2⟩
end Go.Proofs.YtddpladmkmpoaabDoor
