import Derived.Test.YtjipemnphpnmiabDoorRpA
namespace Go.Proofs.YtjipemnphpnmiabDoor
open Go.ChangeShapes Go.WideShapes Go.ChangeAt Go.RowKit
set_option linter.unusedVariables false
set_option maxHeartbeats 2000000 in
theorem rparse_go (S : ByteArray) (hs : S.size = 10) (h4 : (S[4]'(by omega)).toNat = 45) (h7 : (S[7]'(by omega)).toNat = 45) (Y M D n e : Int) (w : World)
    (A1 : Hid (∀ W, Calls Tryd.prog 31 #[.string S, .int .i64 0, .int .i64 4] W fun e w' => e = .returned (.int .i64 Y) ∧ w' = W))
    (A2 : Hid (∀ W, Calls Tryd.prog 31 #[.string S, .int .i64 5, .int .i64 7] W fun e w' => e = .returned (.int .i64 M) ∧ w' = W))
    (A3 : Hid (∀ W, Calls Tryd.prog 31 #[.string S, .int .i64 8, .int .i64 10] W fun e w' => e = .returned (.int .i64 D) ∧ w' = W))
    (A4 : Hid (∀ W, Below w.heap.size w W → Calls Tryd.prog 30 #[.agg #[.int .i64 Y, .int .i64 M, .int .i64 D]] W fun r w' => r = .returned (.tuple #[.int .i64 n, .int .i64 e]) ∧ Below W.heap.size W w')) :
    Calls Tryd.prog 19 #[.string S] w fun r w' => r = .returned (.tuple #[.int .i64 n, .int .i64 e]) ∧ Below w.heap.size w w' := by
  go_enter Tryd.func19, Tryd.ntmps19
  go_wp2_with fail
  refine (unhide A1 _).mono ?_
  rintro e w0 ⟨rfl, hw⟩
  rw [hw]
  clear hw w0
  go_wp2_with fail
  refine (unhide A2 _).mono ?_
  rintro e w0 ⟨rfl, hw⟩
  rw [hw]
  clear hw w0
  go_wp2_with fail
  refine (unhide A3 _).mono ?_
  rintro e w0 ⟨rfl, hw⟩
  rw [hw]
  clear hw w0
  go_wp2_with fail
  refine (unhide A4 _ (Below.refl _ _)).mono ?_
  rintro e w2 ⟨rfl, c2⟩
  have C2 := hide c2
  clear c2
  go_wp2
  go_ret2
  exact ⟨rfl, unhide C2⟩
set_option maxHeartbeats 1000000 in
theorem rparse_len (S : ByteArray) (hs : ¬ S.size = 10) (w : World) : Calls Tryd.prog 19 #[.string S] w fun r w' => r = .returned (.tuple #[.int .i64 0, .int .i64 20]) ∧ Below w.heap.size w w' := by
  have h : ¬ (S.size : Int) = 10 := by omega
  go_enter Tryd.func19, Tryd.ntmps19
  go_wp2
  go_ret2
  exact ⟨rfl, Below.refl _ _⟩
set_option maxHeartbeats 1000000 in
theorem dparse_len (S : ByteArray) (hs : ¬ S.size = 10) (w : World) : Calls Tryd.prog 18 #[.string S] w fun r w' => r = .returned (.tuple #[.int .i64 0, .int .i64 20]) ∧ Below w.heap.size w w' := by
  have h : ¬ (S.size : Int) = 10 := by omega
  go_enter Tryd.func18, Tryd.ntmps18
  go_wp2
  go_ret2
  exact ⟨rfl, Below.refl _ _⟩
set_option maxHeartbeats 1000000 in
theorem rparse_sgn (S : ByteArray) (hs : S.size = 10) (B C : Nat) (h4 : (S[4]'(by omega)).toNat = B) (h7 : (S[7]'(by omega)).toNat = C) (hc : ¬ B = 45 ∨ B = 45 ∧ ¬ C = 45) (w : World) : Calls Tryd.prog 19 #[.string S] w fun r w' => r = .returned (.tuple #[.int .i64 0, .int .i64 20]) ∧ Below w.heap.size w w' := by
  rcases hc with hc | ⟨hc, hc'⟩
  · have hb : ((B : Int) != 45) = true := by rw [bne_iff_ne]; omega
    go_enter Tryd.func19, Tryd.ntmps19
    go_wp2
    go_ret2
    exact ⟨rfl, Below.refl _ _⟩
  · have hb : ((B : Int) != 45) = false := by rw [hc]; rfl
    have hb2 : ((C : Int) != 45) = true := by rw [bne_iff_ne]; omega
    go_enter Tryd.func19, Tryd.ntmps19
    go_wp2
    go_ret2
    exact ⟨rfl, Below.refl _ _⟩
set_option maxHeartbeats 1000000 in
theorem dparse_sgn (S : ByteArray) (hs : S.size = 10) (B C : Nat) (h4 : (S[4]'(by omega)).toNat = B) (h7 : (S[7]'(by omega)).toNat = C) (hc : ¬ B = 45 ∨ B = 45 ∧ ¬ C = 45) (w : World) : Calls Tryd.prog 18 #[.string S] w fun r w' => r = .returned (.tuple #[.int .i64 0, .int .i64 20]) ∧ Below w.heap.size w w' := by
  rcases hc with hc | ⟨hc, hc'⟩
  · have hb : ((B : Int) != 45) = true := by rw [bne_iff_ne]; omega
    go_enter Tryd.func18, Tryd.ntmps18
    go_wp2
    go_ret2
    exact ⟨rfl, Below.refl _ _⟩
  · have hb : ((B : Int) != 45) = false := by rw [hc]; rfl
    have hb2 : ((C : Int) != 45) = true := by rw [bne_iff_ne]; omega
    go_enter Tryd.func18, Tryd.ntmps18
    go_wp2
    go_ret2
    exact ⟨rfl, Below.refl _ _⟩
theorem rparse_all (S : ByteArray) (hs : S.size = 10) (h4 : (S[4]'(by omega)).toNat = 45) (h7 : (S[7]'(by omega)).toNat = 45) (n e : Int) (w : World)
    (A4 : ∀ W, Below w.heap.size w W → Calls Tryd.prog 30 #[.agg #[.int .i64 (rv (S.extract 0 4)), .int .i64 (rv (S.extract 5 7)), .int .i64 (rv (S.extract 8 10))]] W fun r w' => r = .returned (.tuple #[.int .i64 n, .int .i64 e]) ∧ Below W.heap.size W w') :
    Calls Tryd.prog 19 #[.string S] w fun r w' => r = .returned (.tuple #[.int .i64 n, .int .i64 e]) ∧ Below w.heap.size w w' :=
  rparse_go S hs h4 h7 _ _ _ n e w (fun W => rnum S 0 4 W (by omega) (by omega) (by omega) (by omega)) (fun W => rnum S 5 7 W (by omega) (by omega) (by omega) (by omega)) (fun W => rnum S 8 10 W (by omega) (by omega) (by omega) (by omega)) A4
theorem dv_some {T : ByteArray} {v : Nat} (h : dgo 0 T.data.toList = some v) : dv T = v := by unfold dv; rw [h]; rfl
theorem dv_none {T : ByteArray} (h : dgo 0 T.data.toList = none) : dv T = 0 := by unfold dv; rw [h]; rfl
theorem rv_some {T : ByteArray} {v : Nat} (h : dgo 0 T.data.toList = some v) : rv T = v := by unfold rv; rw [h]
theorem rv_none {T : ByteArray} (h : dgo 0 T.data.toList = none) : rv T = -1 := by unfold rv; rw [h]
/-- both Parses, at all texts -/
theorem parses (S : ByteArray) (w : World) (hM : Mon w) : ∃ n e : Int, (∀ W, Below w.heap.size w W → Calls Tryd.prog 18 #[.string S] W fun r w' => r = .returned (.tuple #[.int .i64 n, .int .i64 e]) ∧ Below W.heap.size W w') ∧ (∀ W, Below w.heap.size w W → Calls Tryd.prog 19 #[.string S] W fun r w' => r = .returned (.tuple #[.int .i64 n, .int .i64 e]) ∧ Below W.heap.size W w') := by
  by_cases hs : S.size = 10
  · by_cases hc : ¬ (S[4]'(by omega)).toNat = 45 ∨ (S[4]'(by omega)).toNat = 45 ∧ ¬ (S[7]'(by omega)).toNat = 45
    · exact ⟨_, _, fun W hW => dparse_sgn S hs _ _ rfl rfl hc W, fun W hW => rparse_sgn S hs _ _ rfl rfl hc W⟩
    · have h4 : (S[4]'(by omega)).toNat = 45 := by omega
      have h7 : (S[7]'(by omega)).toNat = 45 := by omega
      have bad : ¬ Good (dv (S.extract 0 4) : Nat) (dv (S.extract 5 7) : Nat) (dv (S.extract 8 10) : Nat) → ¬ Good (rv (S.extract 0 4)) (rv (S.extract 5 7)) (rv (S.extract 8 10)) → ∃ n e : Int, (∀ W, Below w.heap.size w W → Calls Tryd.prog 18 #[.string S] W fun r w' => r = .returned (.tuple #[.int .i64 n, .int .i64 e]) ∧ Below W.heap.size W w') ∧ (∀ W, Below w.heap.size w W → Calls Tryd.prog 19 #[.string S] W fun r w' => r = .returned (.tuple #[.int .i64 n, .int .i64 e]) ∧ Below W.heap.size W w') := fun g1 g2 =>
        ⟨0, 20, fun W hW => dparse_all S hs h4 h7 0 20 W (fun V hV => dfrom_bad _ _ _ V ((hM.below hW).below hV) g1), fun W hW => rparse_all S hs h4 h7 0 20 W (fun V hV => rfrom_bad _ _ _ V g2)⟩
      cases e1 : dgo 0 (S.extract 0 4).data.toList with
      | none => exact bad (by rw [dv_none e1]; rintro ⟨g, _⟩; omega) (by rw [rv_none e1]; rintro ⟨g, _⟩; omega)
      | some a =>
        cases e2 : dgo 0 (S.extract 5 7).data.toList with
        | none => exact bad (by rw [dv_none e2]; rintro ⟨_, _, g, _⟩; omega) (by rw [rv_none e2]; rintro ⟨_, _, g, _⟩; omega)
        | some b =>
          cases e3 : dgo 0 (S.extract 8 10).data.toList with
          | none => exact bad (by rw [dv_none e3]; rintro ⟨_, _, _, _, g, _⟩; omega) (by rw [rv_none e3]; rintro ⟨_, _, _, _, g, _⟩; omega)
          | some c =>
            have hd : dv (S.extract 0 4) = a ∧ dv (S.extract 5 7) = b ∧ dv (S.extract 8 10) = c := ⟨dv_some e1, dv_some e2, dv_some e3⟩
            have hr : rv (S.extract 0 4) = a ∧ rv (S.extract 5 7) = b ∧ rv (S.extract 8 10) = c := ⟨rv_some e1, rv_some e2, rv_some e3⟩
            by_cases hg : Good (a : Int) (b : Int) (c : Int)
            · obtain ⟨y, m, d, n, g1, g2, g3, hdat⟩ := hg.dat
              have g1' : a = y := by omega
              have g2' : b = m := by omega
              have g3' : c = d := by omega
              subst g1' g2' g3'
              refine ⟨n, 0, fun W hW => dparse_all S hs h4 h7 n 0 W (fun V hV => ?_), fun W hW => rparse_all S hs h4 h7 n 0 W (fun V hV => ?_)⟩
              · rw [hd.1, hd.2.1, hd.2.2]
                exact dfrom_ok a b c n V ((hM.below hW).below hV) hdat
              · rw [hr.1, hr.2.1, hr.2.2]
                exact rfrom_ok a b c n V hdat
            · exact bad (by rw [hd.1, hd.2.1, hd.2.2]; exact hg) (by rw [hr.1, hr.2.1, hr.2.2]; exact hg)
  · exact ⟨_, _, fun W hW => dparse_len S hs W, fun W hW => rparse_len S hs W⟩
set_option maxHeartbeats 2000000 in
theorem walk_texts (S : ByteArray) (n : Int) (w : World) (hM : Mon w) (hP : Pow w) : Calls Tryd.prog 7 #[.string S, .int .i64 n] w fun r w' => r = .returned (.bool true) ∧ Below w.heap.size w w' := by
  obtain ⟨a, e, h1, h2⟩ := parses S w hM
  obtain ⟨T, e2, h3, h4⟩ := prints n w hM hP
  have A1 := hide h1
  have A2 := hide h2
  have A3 := hide h3
  have A4 := hide h4
  clear hM hP h1 h2 h3 h4
  go_enter Tryd.func7, Tryd.ntmps7
  go_wp2_with fail
  refine (unhide A1 _ (Below.refl _ _)).mono ?_
  rintro e w1 ⟨rfl, c1⟩
  have B1 := hide c1
  clear c1
  go_wp2_with fail
  refine (unhide A2 _ (unhide B1)).mono ?_
  rintro e w2 ⟨rfl, c2⟩
  have B2 := hide ((unhide B1).trans (c2.mono (unhide B1).size))
  clear c2
  go_wp2_with fail
  refine (alike_same _ _ _).mono ?_
  rintro e w0 ⟨rfl, hw⟩
  rw [hw]
  clear hw w0
  go_wp2_with fail
  refine (unhide A3 _ (unhide B2)).mono ?_
  rintro e w3 ⟨rfl, c3⟩
  have B3 := hide ((unhide B2).trans (c3.mono (unhide B2).size))
  clear c3
  go_wp2_with fail
  refine (unhide A4 _ (unhide B3)).mono ?_
  rintro e w4 ⟨rfl, c4⟩
  have B4 := hide ((unhide B3).trans (c4.mono (unhide B3).size))
  clear c4
  go_wp2
  go_ret
  exact ⟨by simp, unhide B4⟩
end Go.Proofs.YtjipemnphpnmiabDoor
