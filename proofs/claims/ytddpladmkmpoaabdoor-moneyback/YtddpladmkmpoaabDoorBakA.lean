import Derived.Test.YtddpladmkmpoaabDoorBakN
import Derived.Test.YtddpladmkmpoaabDoorFirD
namespace Go.Proofs.YtddpladmkmpoaabDoor
open Go.ChangeShapes Go.WideShapes Go.ChangeAt Go.RowKit
set_option linter.unusedVariables false
/-- what the world's variables hold -/
structure Ground (w : World) : Prop where
  pow : Pow w
  len : ∃ m : Int, w.cell? ⟨2, 0, none⟩ = some (.int .i64 m)
  err : ∃ te pe, w.cell? ⟨4, 0, none⟩ = some (.iface te pe)
theorem Ground.below {w w' : World} (h : Ground w) (hb : Below w.heap.size w w') : Ground w' := by
  obtain ⟨m, hm⟩ := h.len
  obtain ⟨te, pe, he⟩ := h.err
  exact ⟨h.pow.below pow_no hb, ⟨m, (hb.cell (show (⟨2, 0, none⟩ : Addr).block < w.heap.size from Lib.lt_of_cell hm)).trans hm⟩, ⟨te, pe, (hb.cell (show (⟨4, 0, none⟩ : Addr).block < w.heap.size from Lib.lt_of_cell he)).trans he⟩⟩
set_option maxRecDepth 100000 in
set_option maxHeartbeats 4000000 in
theorem back_good (a b : Int) (w : World) (hG : Ground w) (h1 : -9223372036854775807 ≤ a) (h2 : a ≤ 9223372036854775807) (k1 : -9223372036854775807 ≤ b) (k2 : b ≤ 9223372036854775807) :
    Calls Tryd.prog 6 #[.int .i64 a, .int .i64 b] w fun e w' => e = .returned (.bool true) ∧ Below w.heap.size w w' := by
  have A0 := hide (first_ok w hG.pow)
  have G := hide hG
  have ma : (a == -9223372036854775808) = false := by rw [beq_eq_false_iff_ne]; omega
  have mb : (b == -9223372036854775808) = false := by rw [beq_eq_false_iff_ne]; omega
  have HA := hide (And.intro h1 h2)
  have HB := hide (And.intro k1 k2)
  clear hG h1 h2 k1 k2
  go_enter Tryd.func6, Tryd.ntmps6
  go_wp2_with fail
  refine (unhide A0).mono ?_
  rintro e w1 ⟨rfl, hb1⟩
  have B1 := hide hb1
  clear hb1
  go_wp2
  go_loopw [6] (fun vd wr => ∃ D : Nat, D ≤ 7 ∧ vd = .int .i64 D ∧ Below w.heap.size w wr) (fun i _ => 7 - (RowKit.intOf i).toNat)
  case atStart => exact ⟨0, by omega, rfl, unhide B1⟩
  case round =>
    rename_i wr
    obtain ⟨D, hD, rfl, hb⟩ := hrel
    have BR := hide hb
    clear hb
    by_cases hlt : D ≤ 6
    · have hI : (D : Int) ≤ 6 := by omega
      have P1 := hide (fun W (hW : Below w.heap.size w W) => mprint_any a D W (unhide HA).1 (unhide HA).2 hlt ((unhide G).below hW).pow)
      have P2 := hide (fun W (hW : Below w.heap.size w W) => mprint_any b D W (unhide HB).1 (unhide HB).2 hlt ((unhide G).below hW).pow)
      have P3 := hide (fun W (hW : Below w.heap.size w W) => (show Calls Tryd.prog 16 #[.string ⟨(txt a D).toArray⟩, .int .i64 D] W fun e w' => e = .returned (.tuple #[.int .i64 a, .int .i64 0]) ∧ Below W.heap.size W w' by
        obtain ⟨m, hm⟩ := ((unhide G).below hW).len
        obtain ⟨te, pe, he⟩ := ((unhide G).below hW).err
        have h := mparse_any (txt a D) D W hlt (txt_len a D hlt (unhide HA).1 (unhide HA).2) m hm _ he (.inr ⟨te, pe, rfl⟩)
        rw [par_txt a D hlt (unhide HA).1 (unhide HA).2] at h
        exact h))
      have haa : (a != a) = false := by simp
      by_cases hab : a = b
      · subst hab
        obtain ⟨S, hS⟩ : ∃ S, txt a D = S := ⟨_, rfl⟩
        rw [hS] at P1 P2 P3
        clear hS
        go_wp2_with fail
        refine (unhide P1 _ (unhide BR)).mono ?_
        rintro e w2 ⟨rfl, c2⟩
        have B2 := hide ((unhide BR).trans (c2.mono (unhide BR).size))
        clear c2
        go_wp2_with fail
        refine (unhide P2 _ (unhide B2)).mono ?_
        rintro e w3 ⟨rfl, c3⟩
        have B3 := hide ((unhide B2).trans (c3.mono (unhide B2).size))
        clear c3
        go_wp2_with fail
        refine (unhide P3 _ (unhide B3)).mono ?_
        rintro e w4 ⟨rfl, c4⟩
        have B4 := hide ((unhide B3).trans (c4.mono (unhide B3).size))
        clear c4
        go_wp2
        exact ⟨⟨D + 1, by omega, by go_num, unhide B4⟩, by simp [RowKit.intOf]; omega⟩
      · have hne := fun h => hab (txt_inj hlt (unhide HA).1 (unhide HA).2 (unhide HB).1 (unhide HB).2 h)
        obtain ⟨S, hS⟩ : ∃ S, txt a D = S := ⟨_, rfl⟩
        obtain ⟨T, hT⟩ : ∃ T, txt b D = T := ⟨_, rfl⟩
        rw [hS, hT] at hne
        rw [hS] at P1 P3
        rw [hT] at P2
        have hbe : (a == b) = false := by rw [beq_eq_false_iff_ne]; exact hab
        have hst : (S == T) = false := by rw [beq_eq_false_iff_ne]; exact hne
        clear hS hT hab hne
        go_wp2_with fail
        refine (unhide P1 _ (unhide BR)).mono ?_
        rintro e w2 ⟨rfl, c2⟩
        have B2 := hide ((unhide BR).trans (c2.mono (unhide BR).size))
        clear c2
        go_wp2_with fail
        refine (unhide P2 _ (unhide B2)).mono ?_
        rintro e w3 ⟨rfl, c3⟩
        have B3 := hide ((unhide B2).trans (c3.mono (unhide B2).size))
        clear c3
        go_wp2_with fail
        refine (unhide P3 _ (unhide B3)).mono ?_
        rintro e w4 ⟨rfl, c4⟩
        have B4 := hide ((unhide B3).trans (c4.mono (unhide B3).size))
        clear c4
        go_wp2
        exact ⟨⟨D + 1, by omega, by go_num, unhide B4⟩, by simp [RowKit.intOf]; omega⟩
    · have hI : ¬ (D : Int) ≤ 6 := by omega
      go_wp2
      go_ret
      exact ⟨rfl, unhide BR⟩
end Go.Proofs.YtddpladmkmpoaabDoor
