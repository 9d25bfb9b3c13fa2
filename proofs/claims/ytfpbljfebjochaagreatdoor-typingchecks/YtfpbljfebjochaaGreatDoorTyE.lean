/- typing: reckonedType 76, pairType 69. -/
import Derived.Test.YtfpbljfebjochaaGreatDoorTyB
namespace Go.Proofs.YtfpbljfebjochaaGreatDoor
open Go Go.ChangeShapes Go.WideShapes Go.ChangeAt Go.RowKit
set_option linter.unusedVariables false
def rc (k : Nat) : Int × Int × Int × Int := recL.getD k (0, 0, 0, 0)
theorem ix145_0 (W : World) : (Instr.index 293 (.agg recC) (.int .i64 0)).run Tryz.prog W = .ok (.agg #[.int .i64 (rc 0).1, .int .i64 (rc 0).2.1, .int .i64 (rc 0).2.2.1, .int .i64 (rc 0).2.2.2]) W := by kernel_rfl
theorem ix145_1 (W : World) : (Instr.index 293 (.agg recC) (.int .i64 1)).run Tryz.prog W = .ok (.agg #[.int .i64 (rc 1).1, .int .i64 (rc 1).2.1, .int .i64 (rc 1).2.2.1, .int .i64 (rc 1).2.2.2]) W := by kernel_rfl
theorem ix145_2 (W : World) : (Instr.index 293 (.agg recC) (.int .i64 2)).run Tryz.prog W = .ok (.agg #[.int .i64 (rc 2).1, .int .i64 (rc 2).2.1, .int .i64 (rc 2).2.2.1, .int .i64 (rc 2).2.2.2]) W := by kernel_rfl
theorem ix145_3 (W : World) : (Instr.index 293 (.agg recC) (.int .i64 3)).run Tryz.prog W = .ok (.agg #[.int .i64 (rc 3).1, .int .i64 (rc 3).2.1, .int .i64 (rc 3).2.2.1, .int .i64 (rc 3).2.2.2]) W := by kernel_rfl
theorem ix145_4 (W : World) : (Instr.index 293 (.agg recC) (.int .i64 4)).run Tryz.prog W = .ok (.agg #[.int .i64 (rc 4).1, .int .i64 (rc 4).2.1, .int .i64 (rc 4).2.2.1, .int .i64 (rc 4).2.2.2]) W := by kernel_rfl
theorem ix145_5 (W : World) : (Instr.index 293 (.agg recC) (.int .i64 5)).run Tryz.prog W = .ok (.agg #[.int .i64 (rc 5).1, .int .i64 (rc 5).2.1, .int .i64 (rc 5).2.2.1, .int .i64 (rc 5).2.2.2]) W := by kernel_rfl
theorem ix145_6 (W : World) : (Instr.index 293 (.agg recC) (.int .i64 6)).run Tryz.prog W = .ok (.agg #[.int .i64 (rc 6).1, .int .i64 (rc 6).2.1, .int .i64 (rc 6).2.2.1, .int .i64 (rc 6).2.2.2]) W := by kernel_rfl
theorem ix145_7 (W : World) : (Instr.index 293 (.agg recC) (.int .i64 7)).run Tryz.prog W = .ok (.agg #[.int .i64 (rc 7).1, .int .i64 (rc 7).2.1, .int .i64 (rc 7).2.2.1, .int .i64 (rc 7).2.2.2]) W := by kernel_rfl
theorem ix145_8 (W : World) : (Instr.index 293 (.agg recC) (.int .i64 8)).run Tryz.prog W = .ok (.agg #[.int .i64 (rc 8).1, .int .i64 (rc 8).2.1, .int .i64 (rc 8).2.2.1, .int .i64 (rc 8).2.2.2]) W := by kernel_rfl
theorem ix145_9 (W : World) : (Instr.index 293 (.agg recC) (.int .i64 9)).run Tryz.prog W = .ok (.agg #[.int .i64 (rc 9).1, .int .i64 (rc 9).2.1, .int .i64 (rc 9).2.2.1, .int .i64 (rc 9).2.2.2]) W := by kernel_rfl
theorem ix145_10 (W : World) : (Instr.index 293 (.agg recC) (.int .i64 10)).run Tryz.prog W = .ok (.agg #[.int .i64 (rc 10).1, .int .i64 (rc 10).2.1, .int .i64 (rc 10).2.2.1, .int .i64 (rc 10).2.2.2]) W := by kernel_rfl
theorem ix145 (k : Nat) (hk : k < 11) (W : World) : (Instr.index 293 (.agg recC) (.int .i64 k)).run Tryz.prog W = .ok (.agg #[.int .i64 (rc k).1, .int .i64 (rc k).2.1, .int .i64 (rc k).2.2.1, .int .i64 (rc k).2.2.2]) W := by
  match k, hk with
  | 0, _ => exact ix145_0 W
  | 1, _ => exact ix145_1 W
  | 2, _ => exact ix145_2 W
  | 3, _ => exact ix145_3 W
  | 4, _ => exact ix145_4 W
  | 5, _ => exact ix145_5 W
  | 6, _ => exact ix145_6 W
  | 7, _ => exact ix145_7 W
  | 8, _ => exact ix145_8 W
  | 9, _ => exact ix145_9 W
  | 10, _ => exact ix145_10 W
def ld145 (x : Value) : Sem Value := Instr.loadAt 293 x
theorem ld145_is (x : Value) : Instr.loadAt 293 x = ld145 x := rfl
theorem size145 : (Tryz.prog.info? 293).map (·.size) = some 44 := by kernel_rfl
theorem run_ld145 {W : World} (h : Recs W) : (ld145 (.pointer (some ⟨1, 0, none⟩))).run Tryz.prog W = .ok (.agg recC) W :=
  run_loadAt_mid (P := Tryz.prog) W 1 0 293 recC.toList _ (fun j u hu => by rw [Nat.zero_add, h.cell]; simpa using hu) Tryz.underlying293 rfl size145
/-- does the row k fit? -/
def rHit (k : Nat) (op a b : Int) : Prop := (rc k).1 = op ∧ (rc k).2.1 = a ∧ (rc k).2.2.1 = b
def rB (k : Nat) (op a b : Int) : Bool := (rc k).1 == op && ((rc k).2.1 == a && (rc k).2.2.1 == b)
theorem rB_iff (k : Nat) (op a b : Int) : rB k op a b = true ↔ rHit k op a b := by unfold rB rHit; simp
/-- what +, - and * make of their parts' types -/
def recS (op a b : Int) : Int := match (List.range 11).find? (fun k => rB k op a b) with | some k => (rc k).2.2.2 | none => 0
theorem rec_hit {op a b : Int} {k : Nat} (hk : k < 11) (h : rHit k op a b) (hb : ∀ j, j < k → ¬ rHit j op a b) : recS op a b = (rc k).2.2.2 := by
  have : (List.range 11).find? (fun k => rB k op a b) = some k := by
    rw [List.find?_range_eq_some]
    exact ⟨(rB_iff _ _ _ _).2 h, by simpa using hk, fun j hj => by have := hb j hj; rw [← rB_iff] at this; simpa using this⟩
  unfold recS
  rw [this]
theorem rec_none {op a b : Int} (hb : ∀ j, j < 11 → ¬ rHit j op a b) : recS op a b = 0 := by
  have : (List.range 11).find? (fun k => rB k op a b) = none := by
    rw [List.find?_eq_none]
    intro j hj
    have := hb j (by simpa using hj)
    rw [← rB_iff] at this
    exact this
  unfold recS
  rw [this]
attribute [local go_sem ↓] ld145_is
set_option maxRecDepth 100000 in
set_option maxHeartbeats 4000000 in
theorem reckoned_any {w : World} (hT : Recs w) (op a b : Int) : Calls Tryz.prog 217 #[.int .i64 op, .int .i64 a, .int .i64 b] w fun e w' => e = .returned (.int .i64 (recS op a b)) ∧ Below w.heap.size w w' := by
  have hld := run_ld145 hT
  clear hT
  go_enter Tryz.func217, Tryz.ntmps217
  go_wp2_with fail
  go_loopw [10] (fun v wr => ∃ (k : Nat), v = .int .i64 k ∧ k ≤ 11 ∧ Hid (Below w.heap.size w wr ∧ ∀ j, j < k → ¬ rHit j op a b)) (fun v _ => 11 - (intOf v).toNat)
  case atStart => exact ⟨0, rfl, by omega, Below.refl _ _, fun j h => by omega⟩
  case round =>
    obtain ⟨k, rfl, hk, hrel⟩ := hrel
    by_cases hlt : k < 11
    · have hix := ix145 k hlt
      have hlt' : (k : Int) < 11 := by omega
      have hh : Hid (rHit k op a b ↔ (rc k).1 = op ∧ (rc k).2.1 = a ∧ (rc k).2.2.1 = b) := Iff.rfl
      have hf : Hid (rHit k op a b → recS op a b = (rc k).2.2.2) := fun h => rec_hit hlt h (unhide hrel).2
      have hn : Hid (¬ rHit k op a b → ∀ j, j < k + 1 → ¬ rHit j op a b) := fun h j hj => by
        by_cases e : j = k
        · subst e; exact h
        · exact (unhide hrel).2 j (by omega)
      obtain ⟨o', ho⟩ : ∃ o', o' = (rc k).1 := ⟨_, rfl⟩
      obtain ⟨a', ha⟩ : ∃ a', a' = (rc k).2.1 := ⟨_, rfl⟩
      obtain ⟨b', hb⟩ : ∃ b', b' = (rc k).2.2.1 := ⟨_, rfl⟩
      obtain ⟨g', hg⟩ : ∃ g', g' = (rc k).2.2.2 := ⟨_, rfl⟩
      rw [← ho, ← ha, ← hb, ← hg] at hix
      rw [← ho, ← ha, ← hb] at hh
      rw [← hg] at hf
      clear ho ha hb hg
      by_cases e1 : o' = op
      · by_cases e2 : a' = a
        · by_cases e3 : b' = b
          · have hfin := hide (unhide hf ((unhide hh).2 ⟨e1, e2, e3⟩))
            clear hf hn hh
            subst e1 e2 e3
            go_wp2_with fail
            go_ret
            exact ⟨by rw [unhide hfin]; rfl, (unhide hrel).1.alloc (unhide hrel).1.size _⟩
          · have hnn := hide (unhide hn (fun h => e3 ((unhide hh).1 h).2.2))
            have e3' := beqF e3
            clear hf hn hh
            subst e1 e2
            go_wp2_with fail
            exact ⟨⟨k + 1, by go_num, by omega, (unhide hrel).1.alloc (unhide hrel).1.size _, unhide hnn⟩, by simp [intOf]; omega⟩
        · have hnn := hide (unhide hn (fun h => e2 ((unhide hh).1 h).2.1))
          have e2' := beqF e2
          clear hf hn hh
          subst e1
          go_wp2_with fail
          exact ⟨⟨k + 1, by go_num, by omega, (unhide hrel).1.alloc (unhide hrel).1.size _, unhide hnn⟩, by simp [intOf]; omega⟩
      · have hnn := hide (unhide hn (fun h => e1 ((unhide hh).1 h).1))
        have e1' := beqF e1
        clear hf hn hh
        go_wp2_with fail
        exact ⟨⟨k + 1, by go_num, by omega, (unhide hrel).1.alloc (unhide hrel).1.size _, unhide hnn⟩, by simp [intOf]; omega⟩
    · have hkn : k = 11 := by omega
      subst hkn
      have hfin := hide (rec_none (unhide hrel).2)
      go_wp2_with fail
      go_ret
      exact ⟨by rw [unhide hfin]; rfl, (unhide hrel).1⟩
/-- what an operation makes of its parts' types -/
def prS (op a b : Int) : Int := if op = 1 ∨ op = 2 then tif (a == 4 && b == 4) 4 else if op = 4 ∨ op = 5 then tif (alike a b) 4 else if op = 6 ∨ op = 7 ∨ op = 8 ∨ op = 9 then tif (alike a b && !(a == 4)) 4 else if op = 10 ∨ op = 11 then tif (a == 2 && b == 2) 4 else recS op a b
theorem pair_both1 (a b : Int) (w : World) : Calls Tryz.prog 192 #[.int .i64 1, .int .i64 a, .int .i64 b] w fun e w' => e = .returned (.int .i64 (tif (a == 4 && b == 4) 4)) ∧ w' = w := by
  have d := hide typeIf_any
  by_cases h : a = 4
  · subst h
    go_enter Tryz.func192, Tryz.ntmps192
    go_wp2_with fail
    refine (unhide d _ _ _).mono ?_
    rintro e w1 ⟨rfl, hw⟩
    rw [hw]; clear hw w1
    go_wp2_with fail
    go_ret
    exact ⟨by simp, rfl⟩
  · have h' := beqF h
    rw [h']
    go_enter Tryz.func192, Tryz.ntmps192
    go_wp2_with fail
    refine (unhide d false _ _).mono ?_
    rintro e w1 ⟨rfl, hw⟩
    rw [hw]; clear hw w1
    go_wp2_with fail
    go_ret
    exact ⟨rfl, rfl⟩
theorem pair_both2 (a b : Int) (w : World) : Calls Tryz.prog 192 #[.int .i64 2, .int .i64 a, .int .i64 b] w fun e w' => e = .returned (.int .i64 (tif (a == 4 && b == 4) 4)) ∧ w' = w := by
  have d := hide typeIf_any
  by_cases h : a = 4
  · subst h
    go_enter Tryz.func192, Tryz.ntmps192
    go_wp2_with fail
    refine (unhide d _ _ _).mono ?_
    rintro e w1 ⟨rfl, hw⟩
    rw [hw]; clear hw w1
    go_wp2_with fail
    go_ret
    exact ⟨by simp, rfl⟩
  · have h' := beqF h
    rw [h']
    go_enter Tryz.func192, Tryz.ntmps192
    go_wp2_with fail
    refine (unhide d false _ _).mono ?_
    rintro e w1 ⟨rfl, hw⟩
    rw [hw]; clear hw w1
    go_wp2_with fail
    go_ret
    exact ⟨rfl, rfl⟩
theorem pair_eq4 (a b : Int) (w : World) : Calls Tryz.prog 192 #[.int .i64 4, .int .i64 a, .int .i64 b] w fun e w' => e = .returned (.int .i64 (tif (alike a b) 4)) ∧ w' = w := by
  have d := hide typeIf_any
  have d2 := hide (alike_any a b)
  obtain ⟨q, hq⟩ : ∃ q, q = alike a b := ⟨_, rfl⟩
  rw [← hq] at d2 ⊢
  clear hq
  go_enter Tryz.func192, Tryz.ntmps192
  go_wp2_with fail
  refine (unhide d2 _).mono ?_
  rintro e w1 ⟨rfl, hw⟩
  rw [hw]; clear hw w1
  go_wp2_with fail
  refine (unhide d _ _ _).mono ?_
  rintro e w1 ⟨rfl, hw⟩
  rw [hw]; clear hw w1
  go_wp2_with fail
  go_ret
  exact ⟨rfl, rfl⟩
theorem pair_eq5 (a b : Int) (w : World) : Calls Tryz.prog 192 #[.int .i64 5, .int .i64 a, .int .i64 b] w fun e w' => e = .returned (.int .i64 (tif (alike a b) 4)) ∧ w' = w := by
  have d := hide typeIf_any
  have d2 := hide (alike_any a b)
  obtain ⟨q, hq⟩ : ∃ q, q = alike a b := ⟨_, rfl⟩
  rw [← hq] at d2 ⊢
  clear hq
  go_enter Tryz.func192, Tryz.ntmps192
  go_wp2_with fail
  refine (unhide d2 _).mono ?_
  rintro e w1 ⟨rfl, hw⟩
  rw [hw]; clear hw w1
  go_wp2_with fail
  refine (unhide d _ _ _).mono ?_
  rintro e w1 ⟨rfl, hw⟩
  rw [hw]; clear hw w1
  go_wp2_with fail
  go_ret
  exact ⟨rfl, rfl⟩
theorem pair_lt6 (a b : Int) (w : World) : Calls Tryz.prog 192 #[.int .i64 6, .int .i64 a, .int .i64 b] w fun e w' => e = .returned (.int .i64 (tif (alike a b && !(a == 4)) 4)) ∧ w' = w := by
  have d := hide typeIf_any
  have d2 := hide (alike_any a b)
  obtain ⟨q, hq⟩ : ∃ q, q = alike a b := ⟨_, rfl⟩
  rw [← hq] at d2 ⊢
  clear hq
  cases q
  · go_enter Tryz.func192, Tryz.ntmps192
    go_wp2_with fail
    refine (unhide d2 _).mono ?_
    rintro e w1 ⟨rfl, hw⟩
    rw [hw]; clear hw w1
    go_wp2_with fail
    refine (unhide d false _ _).mono ?_
    rintro e w1 ⟨rfl, hw⟩
    rw [hw]; clear hw w1
    go_wp2_with fail
    go_ret
    exact ⟨rfl, rfl⟩
  · go_enter Tryz.func192, Tryz.ntmps192
    go_wp2_with fail
    refine (unhide d2 _).mono ?_
    rintro e w1 ⟨rfl, hw⟩
    rw [hw]; clear hw w1
    go_wp2_with fail
    refine (unhide d _ _ _).mono ?_
    rintro e w1 ⟨rfl, hw⟩
    rw [hw]; clear hw w1
    go_wp2_with fail
    go_ret
    exact ⟨rfl, rfl⟩
theorem pair_lt7 (a b : Int) (w : World) : Calls Tryz.prog 192 #[.int .i64 7, .int .i64 a, .int .i64 b] w fun e w' => e = .returned (.int .i64 (tif (alike a b && !(a == 4)) 4)) ∧ w' = w := by
  have d := hide typeIf_any
  have d2 := hide (alike_any a b)
  obtain ⟨q, hq⟩ : ∃ q, q = alike a b := ⟨_, rfl⟩
  rw [← hq] at d2 ⊢
  clear hq
  cases q
  · go_enter Tryz.func192, Tryz.ntmps192
    go_wp2_with fail
    refine (unhide d2 _).mono ?_
    rintro e w1 ⟨rfl, hw⟩
    rw [hw]; clear hw w1
    go_wp2_with fail
    refine (unhide d false _ _).mono ?_
    rintro e w1 ⟨rfl, hw⟩
    rw [hw]; clear hw w1
    go_wp2_with fail
    go_ret
    exact ⟨rfl, rfl⟩
  · go_enter Tryz.func192, Tryz.ntmps192
    go_wp2_with fail
    refine (unhide d2 _).mono ?_
    rintro e w1 ⟨rfl, hw⟩
    rw [hw]; clear hw w1
    go_wp2_with fail
    refine (unhide d _ _ _).mono ?_
    rintro e w1 ⟨rfl, hw⟩
    rw [hw]; clear hw w1
    go_wp2_with fail
    go_ret
    exact ⟨rfl, rfl⟩
theorem pair_lt8 (a b : Int) (w : World) : Calls Tryz.prog 192 #[.int .i64 8, .int .i64 a, .int .i64 b] w fun e w' => e = .returned (.int .i64 (tif (alike a b && !(a == 4)) 4)) ∧ w' = w := by
  have d := hide typeIf_any
  have d2 := hide (alike_any a b)
  obtain ⟨q, hq⟩ : ∃ q, q = alike a b := ⟨_, rfl⟩
  rw [← hq] at d2 ⊢
  clear hq
  cases q
  · go_enter Tryz.func192, Tryz.ntmps192
    go_wp2_with fail
    refine (unhide d2 _).mono ?_
    rintro e w1 ⟨rfl, hw⟩
    rw [hw]; clear hw w1
    go_wp2_with fail
    refine (unhide d false _ _).mono ?_
    rintro e w1 ⟨rfl, hw⟩
    rw [hw]; clear hw w1
    go_wp2_with fail
    go_ret
    exact ⟨rfl, rfl⟩
  · go_enter Tryz.func192, Tryz.ntmps192
    go_wp2_with fail
    refine (unhide d2 _).mono ?_
    rintro e w1 ⟨rfl, hw⟩
    rw [hw]; clear hw w1
    go_wp2_with fail
    refine (unhide d _ _ _).mono ?_
    rintro e w1 ⟨rfl, hw⟩
    rw [hw]; clear hw w1
    go_wp2_with fail
    go_ret
    exact ⟨rfl, rfl⟩
theorem pair_lt9 (a b : Int) (w : World) : Calls Tryz.prog 192 #[.int .i64 9, .int .i64 a, .int .i64 b] w fun e w' => e = .returned (.int .i64 (tif (alike a b && !(a == 4)) 4)) ∧ w' = w := by
  have d := hide typeIf_any
  have d2 := hide (alike_any a b)
  obtain ⟨q, hq⟩ : ∃ q, q = alike a b := ⟨_, rfl⟩
  rw [← hq] at d2 ⊢
  clear hq
  cases q
  · go_enter Tryz.func192, Tryz.ntmps192
    go_wp2_with fail
    refine (unhide d2 _).mono ?_
    rintro e w1 ⟨rfl, hw⟩
    rw [hw]; clear hw w1
    go_wp2_with fail
    refine (unhide d false _ _).mono ?_
    rintro e w1 ⟨rfl, hw⟩
    rw [hw]; clear hw w1
    go_wp2_with fail
    go_ret
    exact ⟨rfl, rfl⟩
  · go_enter Tryz.func192, Tryz.ntmps192
    go_wp2_with fail
    refine (unhide d2 _).mono ?_
    rintro e w1 ⟨rfl, hw⟩
    rw [hw]; clear hw w1
    go_wp2_with fail
    refine (unhide d _ _ _).mono ?_
    rintro e w1 ⟨rfl, hw⟩
    rw [hw]; clear hw w1
    go_wp2_with fail
    go_ret
    exact ⟨rfl, rfl⟩
theorem pair_both10 (a b : Int) (w : World) : Calls Tryz.prog 192 #[.int .i64 10, .int .i64 a, .int .i64 b] w fun e w' => e = .returned (.int .i64 (tif (a == 2 && b == 2) 4)) ∧ w' = w := by
  have d := hide typeIf_any
  by_cases h : a = 2
  · subst h
    go_enter Tryz.func192, Tryz.ntmps192
    go_wp2_with fail
    refine (unhide d _ _ _).mono ?_
    rintro e w1 ⟨rfl, hw⟩
    rw [hw]; clear hw w1
    go_wp2_with fail
    go_ret
    exact ⟨by simp, rfl⟩
  · have h' := beqF h
    rw [h']
    go_enter Tryz.func192, Tryz.ntmps192
    go_wp2_with fail
    refine (unhide d false _ _).mono ?_
    rintro e w1 ⟨rfl, hw⟩
    rw [hw]; clear hw w1
    go_wp2_with fail
    go_ret
    exact ⟨rfl, rfl⟩
theorem pair_both11 (a b : Int) (w : World) : Calls Tryz.prog 192 #[.int .i64 11, .int .i64 a, .int .i64 b] w fun e w' => e = .returned (.int .i64 (tif (a == 2 && b == 2) 4)) ∧ w' = w := by
  have d := hide typeIf_any
  by_cases h : a = 2
  · subst h
    go_enter Tryz.func192, Tryz.ntmps192
    go_wp2_with fail
    refine (unhide d _ _ _).mono ?_
    rintro e w1 ⟨rfl, hw⟩
    rw [hw]; clear hw w1
    go_wp2_with fail
    go_ret
    exact ⟨by simp, rfl⟩
  · have h' := beqF h
    rw [h']
    go_enter Tryz.func192, Tryz.ntmps192
    go_wp2_with fail
    refine (unhide d false _ _).mono ?_
    rintro e w1 ⟨rfl, hw⟩
    rw [hw]; clear hw w1
    go_wp2_with fail
    go_ret
    exact ⟨rfl, rfl⟩
theorem pair_rec {w : World} (hT : Recs w) (op a b : Int) (h1 : ¬ op = 1) (h2 : ¬ op = 2) (h4 : ¬ op = 4) (h5 : ¬ op = 5) (h6 : ¬ op = 6) (h7 : ¬ op = 7) (h8 : ¬ op = 8) (h9 : ¬ op = 9) (h10 : ¬ op = 10) (h11 : ¬ op = 11) : Calls Tryz.prog 192 #[.int .i64 op, .int .i64 a, .int .i64 b] w fun e w' => e = .returned (.int .i64 (recS op a b)) ∧ Below w.heap.size w w' := by
  have d := hide (reckoned_any hT op a b)
  obtain ⟨q, hq⟩ : ∃ q, q = recS op a b := ⟨_, rfl⟩
  rw [← hq] at d ⊢
  clear hq hT
  have k1 := beqF h1
  have k2 := beqF h2
  have k4 := beqF h4
  have k5 := beqF h5
  have k6 := beqF h6
  have k7 := beqF h7
  have k8 := beqF h8
  have k9 := beqF h9
  have k10 := beqF h10
  have k11 := beqF h11
  go_enter Tryz.func192, Tryz.ntmps192
  go_wp2_with fail
  refine (unhide d).mono ?_
  rintro e w1 ⟨rfl, hw⟩
  have hw := hide hw
  go_wp2_with fail
  go_ret
  exact ⟨rfl, unhide hw⟩
theorem pair_any {w : World} (hT : Recs w) (op a b : Int) : Calls Tryz.prog 192 #[.int .i64 op, .int .i64 a, .int .i64 b] w fun e w' => e = .returned (.int .i64 (prS op a b)) ∧ Below w.heap.size w w' := by
  have bel : ∀ (e0 : Value) (e : Ending) (w' : World), (e = .returned e0 ∧ w' = w) → e = .returned e0 ∧ Below w.heap.size w w' := fun e0 e w' h => ⟨h.1, by rw [h.2]; exact Below.refl _ _⟩
  by_cases h1 : op = 1
  · subst h1; exact (pair_both1 a b w).mono (fun e w' h => bel _ e w' h)
  by_cases h2 : op = 2
  · subst h2; exact (pair_both2 a b w).mono (fun e w' h => bel _ e w' h)
  by_cases h4 : op = 4
  · subst h4; exact (pair_eq4 a b w).mono (fun e w' h => bel _ e w' h)
  by_cases h5 : op = 5
  · subst h5; exact (pair_eq5 a b w).mono (fun e w' h => bel _ e w' h)
  by_cases h6 : op = 6
  · subst h6; exact (pair_lt6 a b w).mono (fun e w' h => bel _ e w' h)
  by_cases h7 : op = 7
  · subst h7; exact (pair_lt7 a b w).mono (fun e w' h => bel _ e w' h)
  by_cases h8 : op = 8
  · subst h8; exact (pair_lt8 a b w).mono (fun e w' h => bel _ e w' h)
  by_cases h9 : op = 9
  · subst h9; exact (pair_lt9 a b w).mono (fun e w' h => bel _ e w' h)
  by_cases h10 : op = 10
  · subst h10; exact (pair_both10 a b w).mono (fun e w' h => bel _ e w' h)
  by_cases h11 : op = 11
  · subst h11; exact (pair_both11 a b w).mono (fun e w' h => bel _ e w' h)
  have e : prS op a b = recS op a b := by unfold prS; rw [if_neg (by omega), if_neg (by omega), if_neg (by omega), if_neg (by omega)]
  rw [e]
  exact pair_rec hT op a b h1 h2 h4 h5 h6 h7 h8 h9 h10 h11
end Go.Proofs.YtfpbljfebjochaaGreatDoor
