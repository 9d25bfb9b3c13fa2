import Derived.Test.YtjipemnphpnmiaaDoorFlA
import Derived.Test.YtjipemnphpnmiaaDoorFlR
namespace Go.Proofs.YtjipemnphpnmiaaDoor
open Go.ChangeShapes Go.WideShapes Go.ChangeAt Go.RowKit
set_option linter.unusedVariables false
theorem carry {w W : World} (hW : Below w.heap.size w W) {f : Nat} {args : Array Value} {v : Ending} (h : Calls Tryd.prog f args W fun e w' => e = v ∧ Below W.heap.size W w') : Calls Tryd.prog f args W fun e w' => e = v ∧ Below w.heap.size w w' :=
  h.mono fun e w' ⟨he, hb⟩ => ⟨he, hW.trans (hb.mono hW.size)⟩
set_option maxHeartbeats 2000000 in
theorem walk_numbers_ok (y m d n : Nat) (w : World) (hM : Mon w) (h : Dat y m d n) :
    Calls Tryd.prog 5 #[.int .i64 n] w fun r w' => r = .returned (.bool true) ∧ Below w.heap.size w w' := by
  have A1 := hide (fun W (hW : Mon W) => dto_ok y m d n W hW h)
  have A2 := hide (fun W => rto_ok y m d n W h)
  have A3 := hide (fun W (hW : Below w.heap.size w W) => carry hW (dfirst_ok y m d n W (hM.below hW) h))
  have A4 := hide (fun W (hW : Below w.heap.size w W) => carry hW (rfirst_ok y m d n W h))
  have A5 := hide (fun W (hW : Below w.heap.size w W) => carry hW (dlast_ok y m d n W (hM.below hW) h))
  have A6 := hide (fun W (hW : Below w.heap.size w W) => carry hW (rlast_ok y m d n W h))
  have A7 := hide (fun W => dweek_ok n W h.lo h.hi)
  have A8 := hide (fun W => rweek_ok n W h.lo h.hi)
  have HM := hide hM
  clear hM h
  go_enter Tryd.func5, Tryd.ntmps5
  go_wp2_with (first | (go_at_call 16; refine (unhide A1 _ (unhide HM)).mono ?_; rintro e w' ⟨rfl, hw⟩; subst hw) | (go_at_call 17; refine (unhide A2 _).mono ?_; rintro e w' ⟨rfl, hw⟩; subst hw))
  refine (unhide A3 _ (by repeat (first | exact Below.refl _ _ | apply Below.drew | apply below_drewN | apply bal))).mono ?_
  rintro e w1 ⟨rfl, c1⟩
  go_wp2_with fail
  refine (unhide A4 _ c1).mono ?_
  rintro e w2 ⟨rfl, c2⟩
  clear c1
  go_wp2_with fail
  refine (alike_same _ _ _).mono ?_
  rintro e w' ⟨rfl, hw⟩
  subst hw
  go_wp2_with fail
  refine (unhide A5 _ c2).mono ?_
  rintro e w3 ⟨rfl, c3⟩
  clear c2
  go_wp2_with fail
  refine (unhide A6 _ c3).mono ?_
  rintro e w4 ⟨rfl, c4⟩
  clear c3
  have C4 := hide c4
  clear c4
  go_wp2_with (first | (go_at_call 11; refine (alike_same _ _ _).mono ?_; rintro e w' ⟨rfl, hw⟩; subst hw) | (go_at_call 22; refine (unhide A7 _).mono ?_; rintro e w' ⟨rfl, hw⟩; subst hw) | (go_at_call 23; refine (unhide A8 _).mono ?_; rintro e w' ⟨rfl, hw⟩; subst hw))
  go_ret
  exact ⟨rfl, unhide C4⟩
set_option maxHeartbeats 2000000 in
theorem walk_numbers_bad (n : Int) (w : World) (hM : Mon w) (h : n < 1 ∨ 1 ≤ n ∧ 3652059 < n) :
    Calls Tryd.prog 5 #[.int .i64 n] w fun r w' => r = .returned (.bool true) ∧ Below w.heap.size w w' := by
  have h' : n < 1 ∨ 3652059 < n := by omega
  have A1 := hide (fun W (hW : Mon W) => dto_bad n W h')
  have A2 := hide (fun W => rto_bad n W h)
  have A3 := hide (fun W (hW : Below w.heap.size w W) => carry hW (dfirst_bad n W h'))
  have A4 := hide (fun W (hW : Below w.heap.size w W) => carry hW (rfirst_bad n W h))
  have A5 := hide (fun W (hW : Below w.heap.size w W) => carry hW (dlast_bad n W h'))
  have A6 := hide (fun W (hW : Below w.heap.size w W) => carry hW (rlast_bad n W h))
  have A7 := hide (fun W => dweek_bad n W h')
  have A8 := hide (fun W => rweek_bad n W h)
  clear h'
  have HM := hide hM
  clear hM h
  go_enter Tryd.func5, Tryd.ntmps5
  go_wp2_with (first | (go_at_call 16; refine (unhide A1 _ (unhide HM)).mono ?_; rintro e w' ⟨rfl, hw⟩; subst hw) | (go_at_call 17; refine (unhide A2 _).mono ?_; rintro e w' ⟨rfl, hw⟩; subst hw))
  refine (unhide A3 _ (by repeat (first | exact Below.refl _ _ | apply Below.drew | apply below_drewN | apply bal))).mono ?_
  rintro e w1 ⟨rfl, c1⟩
  go_wp2_with fail
  refine (unhide A4 _ c1).mono ?_
  rintro e w2 ⟨rfl, c2⟩
  clear c1
  go_wp2_with fail
  refine (alike_same _ _ _).mono ?_
  rintro e w' ⟨rfl, hw⟩
  subst hw
  go_wp2_with fail
  refine (unhide A5 _ c2).mono ?_
  rintro e w3 ⟨rfl, c3⟩
  clear c2
  go_wp2_with fail
  refine (unhide A6 _ c3).mono ?_
  rintro e w4 ⟨rfl, c4⟩
  clear c3
  have C4 := hide c4
  clear c4
  go_wp2_with (first | (go_at_call 11; refine (alike_same _ _ _).mono ?_; rintro e w' ⟨rfl, hw⟩; subst hw) | (go_at_call 22; refine (unhide A7 _).mono ?_; rintro e w' ⟨rfl, hw⟩; subst hw) | (go_at_call 23; refine (unhide A8 _).mono ?_; rintro e w' ⟨rfl, hw⟩; subst hw))
  go_ret
  exact ⟨rfl, unhide C4⟩
theorem walk_numbers (n : Int) (w : World) (hM : Mon w) : Calls Tryd.prog 5 #[.int .i64 n] w fun r w' => r = .returned (.bool true) ∧ Below w.heap.size w w' := by
  by_cases h : 1 ≤ n ∧ n ≤ 3652059
  · obtain ⟨k, rfl⟩ : ∃ k : Nat, n = k := ⟨n.toNat, by omega⟩
    obtain ⟨y, m, d, hd⟩ := dat_ex k (by omega) (by omega)
    exact walk_numbers_ok y m d k w hM hd
  · exact walk_numbers_bad n w hM (by omega)
end Go.Proofs.YtjipemnphpnmiaaDoor
