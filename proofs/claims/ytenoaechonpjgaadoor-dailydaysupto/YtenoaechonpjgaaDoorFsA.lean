/- daily: New (8), the laws' first (7). -/
import Derived.Test.YtenoaechonpjgaaDoorDlV
namespace Go.Proofs.YtenoaechonpjgaaDoor
open Go Go.Shelf Go.ChangeShapes Go.WideShapes Go.ChangeAt Go.RowKit Go.Maps Go.Sort
set_option linter.unusedVariables false
attribute [local go_sem ↓] ld44_is
theorem new_any (w : World) : Calls Tryd.prog 8 #[] w fun e w' => e = .returned (.pointer (some ⟨w.heap.size, 0, none⟩)) ∧ w' = w.alloc (.cells #[.map none] 48) := by
  go_enter Tryd.func8, Tryd.ntmps8
  go_wp2_with fail
  go_ret
  exact ⟨rfl, rfl⟩
theorem Vw.made (w : World) : Vw (w.alloc (.cells #[.map none] 48)) (w.heap.size + 1) w.heap.size [] where
  dv := ⟨0, none, fun _ => [], fun _ => .slice none 0 0, ⟨⟨(show (w.heap.push (Obj.cells #[Value.map none] 48))[w.heap.size]? = _ by simp), by omega, .inl ⟨rfl, fun _ => rfl, fun _ => rfl⟩⟩, fun k => Ser.nil, fun k => fitT.nil⟩, Nat.le_refl _⟩
  le := by simp
  ok := fun r hr => by cases hr
  can := Can.nil
def fR : List Ro := [⟨0, 0, 9, 0, ⟨#[]⟩, ⟨#[65]⟩, -30, ⟨#[]⟩, ⟨#[]⟩⟩, ⟨0, 0, 5, 0, ⟨#[]⟩, ⟨#[65]⟩, 100, ⟨#[]⟩, ⟨#[]⟩⟩]
def fL : List Dr := [(⟨#[65]⟩, (5, 100, 100)), (⟨#[65]⟩, (9, -30, 70))]
theorem fR_ok : ∀ r ∈ fR, okR r := fun r hr => by
  simp only [fR, List.mem_cons, List.not_mem_nil, or_false] at hr
  rcases hr with rfl | rfl
  · exact ⟨by decide, by decide, by decide, by decide⟩
  · exact ⟨by decide, by decide, by decide, by decide⟩
theorem fR_can : Can fR := ⟨fun r hr => by
  simp only [fR, List.mem_cons, List.not_mem_nil, or_false] at hr
  rcases hr with rfl | rfl <;> decide, fun r hr => by
  simp only [fR, List.mem_cons, List.not_mem_nil, or_false] at hr
  rcases hr with rfl | rfl <;> decide⟩
theorem fR_tol (k : List UInt8) : tol fR k = if k = [65] then [(9, -30), (5, 100)] else [] := by
  have e : ∀ r ∈ fR, r.acc.data.toList = [65] := fun r hr => by
    simp only [fR, List.mem_cons, List.not_mem_nil, or_false] at hr
    rcases hr with rfl | rfl <;> rfl
  by_cases hk : k = [65]
  · rw [if_pos hk, hk]; decide
  · rw [if_neg hk]
    by_cases ht : tol fR k = []
    · exact ht
    · obtain ⟨y, hy⟩ := List.exists_mem_of_ne_nil _ ht
      obtain ⟨r, hr, e2, _⟩ := tol_mem hy
      exact absurd (e2.symm.trans (e r hr)) hk
theorem f_own (d : Int) : own ([(9, -30), (5, 100)] : Td) d = (if 9 = d then -30 else 0) + ((if 5 = d then 100 else 0) + 0) := rfl
theorem f_blc (d : Int) : blc ([(9, -30), (5, 100)] : Td) d = (if decide ((9 : Int) ≤ d) = true then -30 else 0) + ((if decide ((5 : Int) ≤ d) = true then 100 else 0) + 0) := rfl
theorem fR_fit (k : List UInt8) : fitT (tol ([] ++ fR) k) := by
  rw [List.nil_append, fR_tol]
  by_cases hk : k = [65]
  · rw [if_pos hk]
    intro d
    rw [f_own, f_blc]
    constructor
    · split <;> split <;> exact ⟨by decide, by decide⟩
    · split <;> split <;> exact ⟨by decide, by decide⟩
  · rw [if_neg hk]
    exact fitT.nil
theorem f_ser : Ser ([(9, -30), (5, 100)] : Td) [(5, 100, 100), (9, -30, 70)] where
  up := by simp
  is m hm := by
    simp only [List.mem_cons, List.not_mem_nil, or_false] at hm
    rcases hm with rfl | rfl
    · exact ⟨by decide, by decide, by decide⟩
    · exact ⟨by decide, by decide, by decide⟩
  all d hd := by
    rw [f_own] at hd
    by_cases h9 : 9 = d
    · exact ⟨(9, -30, 70), by simp, h9⟩
    · by_cases h5 : 5 = d
      · exact ⟨(5, 100, 100), by simp, h5⟩
      · rw [if_neg h9, if_neg h5] at hd
        exact absurd rfl hd
theorem fR_stt : Stt fR fL := by
  refine ⟨fun k => if k = [65] then [(5, 100, 100), (9, -30, 70)] else [], [[65]], fun k => ?_, by simp, fun k => ?_, ?_⟩
  · rw [fR_tol]
    by_cases hk : k = [65]
    · simp only [if_pos hk]; exact f_ser
    · simp only [if_neg hk]; exact Ser.nil
  · by_cases hk : k = [65]
    · simp [hk]
    · simp [hk]
  · have e : srt [[65]] = [[65]] := by
      unfold srt
      exact List.mergeSort_of_pairwise (by simp)
    rw [e]
    rfl
theorem run_ld44 {w : World} {b o : Nat} {x : Dr} (h : w.rangeAt b o (kD.enc x)) : (ld44 (.pointer (some ⟨b, o, none⟩))).run Tryd.prog w = .ok (.agg #[.string x.1, .int .i64 x.2.1, .int .i64 x.2.2.1, .int .i64 x.2.2.2]) w :=
  run_loadAt_mid (P := Tryd.prog) w b o 44 _ _ h Tryd.underlying44 rfl size44
set_option maxRecDepth 100000 in
set_option maxHeartbeats 4000000 in
theorem first_any (w : World) : Calls Tryd.prog 7 #[] w fun e w' => e = .returned (.bool true) ∧ Below w.heap.size w w' := by
  obtain ⟨A, hA⟩ : ∃ A, A = Obj.cells #[.int .i64 0, .int .i64 0, .int .i64 9, .int .i64 0, .string ⟨#[]⟩, .string ⟨#[65]⟩, .int .i64 (-30), .string ⟨#[]⟩, .string ⟨#[]⟩, .int .i64 0, .int .i64 0, .int .i64 5, .int .i64 0, .string ⟨#[]⟩, .string ⟨#[65]⟩, .int .i64 100, .string ⟨#[]⟩, .string ⟨#[]⟩] 24 := ⟨_, rfl⟩
  obtain ⟨W, hW⟩ : ∃ W, W = (w.alloc (.cells #[.map none] 48)).alloc A := ⟨_, rfl⟩
  have hbW : Below w.heap.size w W := by rw [hW]; exact bal (bal (Below.refl _ _) _) _
  have hV : Vw W (w.heap.size + 1) w.heap.size [] := by rw [hW]; exact (Vw.made w).below (bal (Below.refl _ _) A)
  have hWs : W.heap.size = w.heap.size + 1 + 1 := by rw [hW]; simp
  have hRA : Lies kR W (some ⟨w.heap.size + 1, 0, none⟩) fR := by
    refine ⟨(fun h => by cases h), fun k hk => ⟨w.heap.size + 1, 0, rfl, by omega, fun j u hu => ?_⟩⟩
    have e : w.heap.size + 1 = (w.alloc (.cells #[.map none] 48)).heap.size := by simp
    rw [hW, e, hA, World.cell?_alloc_mark]
    have hk2 : k = 0 ∨ k = 1 := by simp [fR] at hk; omega
    have hj : j < 9 := (List.getElem?_eq_some_iff.1 hu).1
    have hj9 : j = 0 ∨ j = 1 ∨ j = 2 ∨ j = 3 ∨ j = 4 ∨ j = 5 ∨ j = 6 ∨ j = 7 ∨ j = 8 := by omega
    rcases hk2 with rfl | rfl <;> rcases hj9 with rfl | rfl | rfl | rfl | rfl | rfl | rfl | rfl | rfl <;> exact hu
  have dA := hide (apply_vw (cR := 2) (N := 2) (S := fR) hV (by simp) rfl (by decide) hRA fR_can)
  have HBW := hide hbW
  have dN := hide (new_any w)
  have HW := hide hWs
  clear hV hRA hbW hWs
  subst hW hA
  go_enter Tryd.func7, Tryd.ntmps7
  go_wp2_with fail
  refine (unhide dN).mono ?_
  rintro e w1 ⟨rfl, hw⟩
  rw [hw]
  clear hw w1
  go_wp2_with fail
  refine (unhide dA).mono ?_
  rintro e w1 hO
  rcases hO with ⟨hno, _⟩ | ⟨hok, rfl, hV1, hfr⟩
  · exact absurd ⟨fR_ok, fR_fit⟩ hno
  have dS := hide (state_vw hV1 (by decide))
  have HV1 := hide hV1; have HFR := hide hfr
  clear hV1 hfr hok dA dN
  go_wp2_with fail
  refine (unhide dS).mono ?_
  rintro e w2 ⟨L, p, c, hL, rfl, hrow, hb2⟩
  have eL : L = fL := hL.same fR_stt (fun n d => rfl)
  subst eL
  have hV2 := (unhide HV1).below hb2
  have hls := own_lies kD_ok rfl hrow
  obtain ⟨q, off, rfl, hq, hr0⟩ := hls.2 0 (by decide)
  obtain ⟨q', off', e', _, hr1⟩ := hls.2 1 (by decide)
  have e2 : (⟨q', off', none⟩ : Addr) = ⟨q, off, none⟩ := (Option.some.inj e').symm
  have eq1 : q' = q := congrArg Addr.block e2
  have eq2 : off' = off := congrArg Addr.off e2
  subst eq1 eq2
  have hof : off' = 0 := by
    obtain ⟨p, c, e, _, h⟩ := row_slice hrow
    have h2 := h ⟨q', off', none⟩ (by injection e with e; exact e.symm)
    exact h2.1
  subst hof
  have hl0 := run_ld44 hr0
  have hl1 := run_ld44 hr1
  have e0 : 0 + 0 * kD.s = 0 := rfl
  have e4 : 0 + 1 * kD.s = 4 := rfl
  rw [e0] at hl0
  rw [e4] at hl1
  have g0 : (fL[0]'(by decide)) = (⟨#[65]⟩, (5, 100, 100)) := rfl
  have g1 : (fL[1]'(by decide)) = (⟨#[65]⟩, (9, -30, 70)) := rfl
  rw [g0] at hl0
  rw [g1] at hl1
  have dT := hide (at_vw hV2 (by decide) (s := ⟨#[65]⟩) (by decide) 8)
  have eB : blc (tol ([] ++ fR) (⟨#[65]⟩ : ByteArray).data.toList) 8 = 100 := by decide
  rw [eB] at dT
  have hst := st44
  have hsh := sh44
  have heg := eg44
  have heq := eq44_same
  have eln : fL.length = 2 := rfl
  rw [eln]
  have HB3 : Hid (Below w.heap.size w w2) := by
    have h1 := (unhide HFR).below (by rw [unhide HW]; omega) (by omega)
    exact ((unhide HBW).trans h1).trans (hb2.mono (by have := (unhide HFR).size; have := unhide HW; omega))
  clear hb2 hV2 hls hrow hr0 hr1 hL dS e0 e4 g0 g1 eB e2 e' eln hq HV1 HFR HBW
  go_wp2_with fail
  refine (unhide dT).mono ?_
  rintro e w3 ⟨rfl, hb3⟩
  have HB4 := hide ((unhide HB3).trans (hb3.mono (unhide HB3).size))
  clear hb3 dT
  go_wp2_with fail
  go_ret
  exact ⟨rfl, unhide HB4⟩
end Go.Proofs.YtenoaechonpjgaaDoor
