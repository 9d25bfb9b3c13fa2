/- typing: first 13. -/
import Derived.Test.YtcelllihidkphaaDoorTyR
namespace Go.Proofs.YtcelllihidkphaaDoor
open Go Go.Shelf Go.ChangeShapes Go.WideShapes Go.ChangeAt Go.RowKit Go.Maps
set_option linter.unusedVariables false
set_option maxRecDepth 100000
set_option maxHeartbeats 4000000
def nd0 : Nd := ⟨16, 0, 0, 7, 0, ⟨#[]⟩⟩
/-- the query that first asks -/
def q0 : Qy := ⟨[nd0], -1, [14], [(2, 0), (1, -1)], [], -1⟩
theorem q0_E : chkE q0 = 0 := by kernel_rfl
theorem q0_L : chkL q0 = [2, 5, 1] := by kernel_rfl
theorem three {W w' : World} {p : Option Addr} {n c : Nat} {x y z : Int} (h : Rw kI W w' (.slice p n c) n [x, y, z]) : ∃ b o, p = some ⟨b, o, none⟩ ∧ n = 3 ∧ w'.cell? ⟨b, o, none⟩ = some (.int .i64 x) ∧ w'.cell? ⟨b, o + 1, none⟩ = some (.int .i64 y) ∧ w'.cell? ⟨b, o + 2, none⟩ = some (.int .i64 z) := by
  have hl := h.lies kI_ok
  have hn : 3 = n := h.len
  obtain ⟨b, o, e, _, r0⟩ := hl.2 0 (by simp)
  obtain ⟨b1, o1, e1, _, r1⟩ := hl.2 1 (by simp)
  obtain ⟨b2, o2, e2, _, r2⟩ := hl.2 2 (by simp)
  rw [e] at e1 e2
  cases e1
  cases e2
  refine ⟨b, o, e, hn.symm, ?_, ?_, ?_⟩
  · have := r0 0 (.int .i64 x) rfl
    simpa [kI] using this
  · have := r1 0 (.int .i64 y) rfl
    simpa [kI] using this
  · have := r2 0 (.int .i64 z) rfl
    simpa [kI] using this
theorem first_any {W : World} (hT : Tab W) : Calls Tryd.prog 13 #[] W fun e w' => e = .returned (.bool true) ∧ Below W.heap.size W w' := by
  obtain ⟨W3, hW3⟩ : ∃ X, X = ((W.alloc (.cells #[.int .i64 16, .int .i64 0, .int .i64 0, .int .i64 7, .int .i64 0, .string ⟨#[]⟩] 37)).alloc (.cells #[.int .i64 14] 3)).alloc (.cells #[.int .i64 2, .int .i64 0, .int .i64 1, .int .i64 (-1)] 45) := ⟨_, rfl⟩
  have hB3 : Below W.heap.size W W3 := by rw [hW3]; exact ((Below.a1 W _).alloc (by simp) _).alloc (by simp; omega) _
  have hq : QIn W3 q0 ⟨some ⟨W.heap.size, 0, none⟩, 1, some ⟨W.heap.size + 1, 0, none⟩, 1, some ⟨W.heap.size + 2, 0, none⟩, 2, none, 0⟩ := by
    rw [hW3]
    refine ⟨⟨(fun h => by cases h), fun k hk => ?_⟩, ⟨(fun h => by cases h), fun k hk => ?_⟩, ⟨(fun h => by cases h), fun k hk => ?_⟩, Lies.nil _ _, by decide, by decide, by decide, by decide⟩
    · have hk0 : k = 0 := by have : k < 1 := hk; omega
      subst hk0
      refine ⟨_, _, rfl, by simp; omega, fun j u hu => ?_⟩
      rw [World.cell?_alloc_lt _ _ _ (by simp; omega), World.cell?_alloc_lt _ _ _ (by simp), World.cell?_alloc_mark]
      simpa [kN, Nd.vals, q0, nd0] using hu
    · have hk0 : k = 0 := by have : k < 1 := hk; omega
      subst hk0
      refine ⟨_, _, rfl, by simp, fun j u hu => ?_⟩
      rw [World.cell?_alloc_lt _ _ _ (by simp)]
      have e := World.cell?_alloc_mark (W.alloc (.cells #[.int .i64 16, .int .i64 0, .int .i64 0, .int .i64 7, .int .i64 0, .string ⟨#[]⟩] 37)) #[.int .i64 14] 3 (0, 0) (0 + 0 * kI.s + j)
      rw [World.size_alloc] at e
      rw [e]
      simpa [kI, q0] using hu
    · refine ⟨_, _, rfl, by simp, fun j u hu => ?_⟩
      have e := World.cell?_alloc_mark ((W.alloc (.cells #[.int .i64 16, .int .i64 0, .int .i64 0, .int .i64 7, .int .i64 0, .string ⟨#[]⟩] 37)).alloc (.cells #[.int .i64 14] 3)) #[.int .i64 2, .int .i64 0, .int .i64 1, .int .i64 (-1)] 45 (0, 0) (0 + k * kG.s + j)
      rw [World.size_alloc, World.size_alloc] at e
      rw [e]
      have hk2 : k = 0 ∨ k = 1 := by have : k < 2 := hk; omega
      have hj : j < 2 := by
        have := (List.getElem?_eq_some_iff.1 hu).1
        simpa [kG] using this
      have hj2 : j = 0 ∨ j = 1 := by omega
      rcases hk2 with rfl | rfl <;> rcases hj2 with rfl | rfl <;> simpa [kG, q0] using hu
  have d := hide (check_any (hT.below hB3).f (hT.below hB3).m (hT.below hB3).r hq)
  have HB3 := hide hB3
  have hqv : qV q0 ⟨some ⟨W.heap.size, 0, none⟩, 1, some ⟨W.heap.size + 1, 0, none⟩, 1, some ⟨W.heap.size + 2, 0, none⟩, 2, none, 0⟩ = .agg #[.slice (some ⟨W.heap.size, 0, none⟩) 1 1, .int .i64 (-1), .slice (some ⟨W.heap.size + 1, 0, none⟩) 1 1, .slice (some ⟨W.heap.size + 1 + 1, 0, none⟩) 2 2, .slice none 0 0, .int .i64 (-1)] := rfl
  rw [hqv, q0_E, q0_L] at d
  clear hT hq hB3 hqv
  go_enter Tryd.func13, Tryd.ntmps13
  go_wp2_with (first | (go_at_call 16; rw [← hW3]; clear hW3; refine (unhide d).mono ?_; rintro e w1 ⟨p, n, c, rfl, hR⟩; have HR := hide hR.bel; obtain ⟨b, o, e1, e2, c0, c1, c2⟩ := three hR; clear hR; subst e1 e2))
  go_ret
  exact ⟨rfl, (unhide HB3).trans ((unhide HR).mono (unhide HB3).size)⟩
/-- the operation that says the same turned about -/
def trnS (op : Int) : Int × Bool := if op = 4 ∨ op = 5 ∨ op = 1 ∨ op = 2 ∨ op = 12 ∨ op = 14 then (op, true) else if op = 6 then (8, true) else if op = 8 then (6, true) else if op = 7 then (9, true) else if op = 9 then (7, true) else (op, false)
theorem turned4 (w : World) : Calls Tryd.prog 18 #[.int .i64 4] w fun e w' => e = .returned (.tuple #[.int .i64 4, .bool true]) ∧ w' = w := by
  go_enter Tryd.func18, Tryd.ntmps18
  go_wp2_with fail
  go_ret2
  exact ⟨rfl, rfl⟩
theorem turned5 (w : World) : Calls Tryd.prog 18 #[.int .i64 5] w fun e w' => e = .returned (.tuple #[.int .i64 5, .bool true]) ∧ w' = w := by
  go_enter Tryd.func18, Tryd.ntmps18
  go_wp2_with fail
  go_ret2
  exact ⟨rfl, rfl⟩
theorem turned1 (w : World) : Calls Tryd.prog 18 #[.int .i64 1] w fun e w' => e = .returned (.tuple #[.int .i64 1, .bool true]) ∧ w' = w := by
  go_enter Tryd.func18, Tryd.ntmps18
  go_wp2_with fail
  go_ret2
  exact ⟨rfl, rfl⟩
theorem turned2 (w : World) : Calls Tryd.prog 18 #[.int .i64 2] w fun e w' => e = .returned (.tuple #[.int .i64 2, .bool true]) ∧ w' = w := by
  go_enter Tryd.func18, Tryd.ntmps18
  go_wp2_with fail
  go_ret2
  exact ⟨rfl, rfl⟩
theorem turned12 (w : World) : Calls Tryd.prog 18 #[.int .i64 12] w fun e w' => e = .returned (.tuple #[.int .i64 12, .bool true]) ∧ w' = w := by
  go_enter Tryd.func18, Tryd.ntmps18
  go_wp2_with fail
  go_ret2
  exact ⟨rfl, rfl⟩
theorem turned14 (w : World) : Calls Tryd.prog 18 #[.int .i64 14] w fun e w' => e = .returned (.tuple #[.int .i64 14, .bool true]) ∧ w' = w := by
  go_enter Tryd.func18, Tryd.ntmps18
  go_wp2_with fail
  go_ret2
  exact ⟨rfl, rfl⟩
theorem turned6 (w : World) : Calls Tryd.prog 18 #[.int .i64 6] w fun e w' => e = .returned (.tuple #[.int .i64 8, .bool true]) ∧ w' = w := by
  go_enter Tryd.func18, Tryd.ntmps18
  go_wp2_with fail
  go_ret2
  exact ⟨rfl, rfl⟩
theorem turned8 (w : World) : Calls Tryd.prog 18 #[.int .i64 8] w fun e w' => e = .returned (.tuple #[.int .i64 6, .bool true]) ∧ w' = w := by
  go_enter Tryd.func18, Tryd.ntmps18
  go_wp2_with fail
  go_ret2
  exact ⟨rfl, rfl⟩
theorem turned7 (w : World) : Calls Tryd.prog 18 #[.int .i64 7] w fun e w' => e = .returned (.tuple #[.int .i64 9, .bool true]) ∧ w' = w := by
  go_enter Tryd.func18, Tryd.ntmps18
  go_wp2_with fail
  go_ret2
  exact ⟨rfl, rfl⟩
theorem turned9 (w : World) : Calls Tryd.prog 18 #[.int .i64 9] w fun e w' => e = .returned (.tuple #[.int .i64 7, .bool true]) ∧ w' = w := by
  go_enter Tryd.func18, Tryd.ntmps18
  go_wp2_with fail
  go_ret2
  exact ⟨rfl, rfl⟩
theorem turnedNo (op : Int) (w : World) (h4 : ¬ op = 4) (h5 : ¬ op = 5) (h1 : ¬ op = 1) (h2 : ¬ op = 2) (h12 : ¬ op = 12) (h14 : ¬ op = 14) (h6 : ¬ op = 6) (h8 : ¬ op = 8) (h7 : ¬ op = 7) (h9 : ¬ op = 9) : Calls Tryd.prog 18 #[.int .i64 op] w fun e w' => e = .returned (.tuple #[.int .i64 op, .bool false]) ∧ w' = w := by
  have k4 := beqF h4
  have k5 := beqF h5
  have k1 := beqF h1
  have k2 := beqF h2
  have k12 := beqF h12
  have k14 := beqF h14
  have k6 := beqF h6
  have k8 := beqF h8
  have k7 := beqF h7
  have k9 := beqF h9
  go_enter Tryd.func18, Tryd.ntmps18
  go_wp2_with fail
  go_ret2
  exact ⟨rfl, rfl⟩
theorem turned_any (op : Int) (w : World) : Calls Tryd.prog 18 #[.int .i64 op] w fun e w' => e = .returned (.tuple #[.int .i64 (trnS op).1, .bool (trnS op).2]) ∧ w' = w := by
  by_cases h4 : op = 4
  · subst h4; exact turned4 w
  by_cases h5 : op = 5
  · subst h5; exact turned5 w
  by_cases h1 : op = 1
  · subst h1; exact turned1 w
  by_cases h2 : op = 2
  · subst h2; exact turned2 w
  by_cases h12 : op = 12
  · subst h12; exact turned12 w
  by_cases h14 : op = 14
  · subst h14; exact turned14 w
  by_cases h6 : op = 6
  · subst h6; exact turned6 w
  by_cases h8 : op = 8
  · subst h8; exact turned8 w
  by_cases h7 : op = 7
  · subst h7; exact turned7 w
  by_cases h9 : op = 9
  · subst h9; exact turned9 w
  have e : trnS op = (op, false) := by unfold trnS; rw [if_neg (by omega), if_neg (by omega), if_neg (by omega), if_neg (by omega), if_neg (by omega)]
  rw [e]
  exact turnedNo op w h4 h5 h1 h2 h12 h14 h6 h8 h7 h9
end Go.Proofs.YtcelllihidkphaaDoor
