import Derived.Test.YtcafhmlpmbkhkaaGreatDoorW43
import Derived.Test.YtcafhmlpmbkhkaaGreatDoorW39
/- An array of five numbers as an argument, opened. -/
namespace Go.Proofs.YtcafhmlpmbkhkaaGreatDoor
open Go.Deep Go Go.RowKit Go.Shelf Go.ChangeShapes Go.WideShapes Go.ChangeAt Go.Maps
set_option linter.unusedVariables false
set_option linter.unusedSimpArgs false
set_option maxRecDepth 100000
set_option maxHeartbeats 8000000
theorem cells48 : Tryz.prog.cellsOf 48 = 5 := by kernel_rfl
section
variable {H : Type} {enc : TypeId × Value → H} {W : World}
theorem open_ages {r : Reach} {b0 : Nat} {v : Value} {d : DataW H} {ps : List MemPlace} (hv : Value.okWide Tryz.prog W r b0 48 v) (h : DataW.Trod enc Tryz.prog W 0 (fun _ => true) true 48 v d ps) :
    ∃ a0 a1 a2 a3 a4, v = agV a0 a1 a2 a3 a4 ∧ ps = [] ∧ ∀ z ∈ [a0, a1, a2, a3, a4], fits64 z := by
  simp only [Value.okWide, Tryz.underlying48] at hv
  obtain ⟨cs, rfl, hsz, _⟩ := hv
  rw [cells48] at hsz
  obtain ⟨c0, c1, c2, c3, c4, hcs⟩ := clQ (cs := cs.toList) (by simpa using hsz)
  obtain rfl : cs = #[c0, c1, c2, c3, c4] := by cases cs; simp_all
  obtain ⟨fuel, hf⟩ := h
  cases fuel with
  | zero => simp [DataW.trod] at hf
  | succ m =>
    rw [DataW.trod_step] at hf
    unfold DataW.trodStep at hf
    simp only [Tryz.underlying48, Value.cells] at hf
    rw [if_pos (by rw [cells48]; rfl)] at hf
    simp only [Option.map_eq_some_iff] at hf
    obtain ⟨ys, hy, e1⟩ := hf
    rw [show List.range 5 = [0, 1, 2, 3, 4] from rfl, cells2] at hy
    simp only [List.mapM_cons, List.mapM_nil, bind, Option.bind_eq_some_iff, pure, Option.some.injEq] at hy
    obtain ⟨y0, g0, t0, ⟨y1, g1, t1, ⟨y2, g2, t2, ⟨y3, g3, t3, ⟨y4, g4, t4, e9, e4⟩, e3⟩, e2⟩, e11⟩, e0⟩ := hy
    subst e9 e4 e3 e2 e11 e0
    have hg : ∀ {y : DataW H × List MemPlace} {cc : Value}, DataW.trod enc Tryz.prog W 0 (fun _ => true) true m 2 [cc] = some y → ∃ a, cc = .int .i64 a ∧ fits64 a ∧ y.2 = [] := fun {y cc} hh => by
      obtain ⟨a, e, hx, z⟩ := DataW.trod_int Tryz.underlying2 hh
      simp only [List.cons.injEq, and_true] at e
      exact ⟨a, e, i64_in z, by rw [hx]⟩
    obtain ⟨a0, rfl, f0, p0⟩ := hg (cc := c0) g0
    obtain ⟨a1, rfl, f1, p1⟩ := hg (cc := c1) g1
    obtain ⟨a2, rfl, f2, p2⟩ := hg (cc := c2) g2
    obtain ⟨a3, rfl, f3, p3⟩ := hg (cc := c3) g3
    obtain ⟨a4, rfl, f4, p4⟩ := hg (cc := c4) g4
    refine ⟨a0, a1, a2, a3, a4, rfl, ?_, fun z hz => ?_⟩
    · have := (Prod.mk.inj e1).2
      rw [← this]
      simp [p0, p1, p2, p3, p4]
    · simp only [List.mem_cons, List.not_mem_nil, or_false] at hz
      rcases hz with rfl | rfl | rfl | rfl | rfl <;> assumption
end
end Go.Proofs.YtcafhmlpmbkhkaaGreatDoor
