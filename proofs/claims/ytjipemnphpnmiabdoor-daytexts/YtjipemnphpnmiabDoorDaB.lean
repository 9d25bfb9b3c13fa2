import Derived.Test.YtjipemnphpnmiabDoorDaA
namespace Go.Proofs.YtjipemnphpnmiabDoor
open Go.ChangeShapes Go.WideShapes Go.ChangeAt Go.RowKit
set_option linter.unusedVariables false
/-- a day brought within its month -/
def dd (X : Nat) (D : Int) : Int := if (X : Int) < if D < 1 then 1 else D then (X : Int) else if D < 1 then 1 else D
theorem reg34_let (b : Nat) (y m : Int) (X : Nat) (D D1 d : Int) (h1 : (if D < 1 then 1 else D) = D1) (h2 : dd X D = d) (W : World) (K : Act → World → Prop) (R : Ending → World → Prop) (t0 t2 t3 t4 t5 t6 t7 t8 t9 t10 t11 t12 t13 t14 t15 t16 t17 t18 t19 t20 t21 t22 t23 : Value)
    (hc0 : W.cell? ⟨b, 0, none⟩ = some (.int .i64 y)) (hc1 : W.cell? ⟨b, 1, none⟩ = some (.int .i64 m)) (hc2 : W.cell? ⟨b, 2, none⟩ = some (.int .i64 D)) (hf2 : W.frozen? ⟨b, 2, none⟩ = false)
    (DC : Hid (Calls Tryd.prog 26 #[.int .i64 y, .int .i64 m] W.drew fun e w' => e = .returned (.int .i64 (X : Int)) ∧ w' = W.drew))
    (hQ : Hid (K { tmps := #[t0, .pointer (some ⟨b, 0, none⟩), t2, t3, t4, t5, t6, t7, t8, t9, t10, t11, t12, .pointer (some ⟨b, 2, none⟩), .int .i64 D, .int .i64 D1, .pointer (some ⟨b, 0, none⟩), .int .i64 y, .pointer (some ⟨b, 1, none⟩), .int .i64 m, .int .i64 (X : Int), .int .i64 d, .pointer (some ⟨b, 2, none⟩), t23], defers := [] } (W.drew.setCell ⟨b, 2, none⟩ (.int .i64 d)))) :
    Code.wp Tryd.prog (Code.region 3 ops34 true) (Exit.then K (bodyPost Tryd.prog Tryd.f28 R)) { tmps := #[t0, .pointer (some ⟨b, 0, none⟩), t2, t3, t4, t5, t6, t7, t8, t9, t10, t11, t12, t13, t14, t15, t16, t17, t18, t19, t20, t21, t22, t23], defers := [] } W := by
  subst h1 h2
  exact reg34 b y m X D W K R t0 t2 t3 t4 t5 t6 t7 t8 t9 t10 t11 t12 t13 t14 t15 t16 t17 t18 t19 t20 t21 t22 t23 hc0 hc1 hc2 hf2 DC hQ
set_option maxHeartbeats 4000000 in
theorem near (Y M D : Int) (y m X : Nat) (hX : dm y m = X) (w : World) (hM : Mon w)
    (hy : Y < 1 ∧ y = 1 ∨ 9999 < Y ∧ y = 9999 ∨ Y = (y : Int) ∧ 1 ≤ y ∧ y ≤ 9999)
    (hm : M < 1 ∧ m = 1 ∨ 12 < M ∧ m = 12 ∨ M = (m : Int) ∧ 1 ≤ m ∧ m ≤ 12) :
    Calls Tryd.prog 28 #[.agg #[.int .i64 Y, .int .i64 M, .int .i64 D]] w fun e w' => e = .returned (.agg #[.int .i64 y, .int .i64 m, .int .i64 (dd X D)]) ∧ Below w.heap.size w w' := by
  have HM := hide hM
  have h3 : 1 ≤ m := by omega
  have h4 : m ≤ 12 := by omega
  have DC := hide (fun W (hW : Mon W) => dof y m W hW h3 h4)
  rw [hX] at DC
  clear hM hX h3 h4
  obtain ⟨D1, hD1⟩ : ∃ D1, (if D < 1 then 1 else D) = D1 := ⟨_, rfl⟩
  obtain ⟨d, hd⟩ : ∃ d, dd X D = d := ⟨_, rfl⟩
  rw [hd]
  have H1 := hide hD1
  have H2 := hide hd
  clear hD1 hd
  rcases hy with ⟨h1, rfl⟩ | ⟨h1, rfl⟩ | ⟨rfl, h1, h1'⟩ <;> rcases hm with ⟨h2, rfl⟩ | ⟨h2, rfl⟩ | ⟨rfl, h2, h2'⟩
  all_goals
    go_enter Tryd.func28, Tryd.ntmps28
    go_wp2
    refine reg34_let w.heap.size _ _ X D D1 d (unhide H1) (unhide H2) _ _ _ _ _ _ _ _ _ _ _ _ _ _ _ _ _ _ _ _ _ _ _ _ _ _ (by go_simp) (by go_simp) (by go_simp) (by go_simp) (hide (unhide DC _ (md (mon2 (unhide HM) _ _)))) (hide ?_)
    go_wp2
    refine bodyPost_ret (by simp [results, Tryd.results28, go_sem]) rfl ⟨rfl, by repeat (first | exact Below.refl _ _ | apply Below.drew | apply bal)⟩
end Go.Proofs.YtjipemnphpnmiabDoor
