/- the laws' first (6). -/
import Derived.Test.YtgohddimnphbkaaDoorSbA
namespace Go.Proofs.YtgohddimnphbkaaDoor
open Go Go.RowKit Go.Shelf Go.ChangeShapes Go.WideShapes Go.ChangeAt Go.Maps Go.Sort
set_option linter.unusedVariables false
attribute [local go_sem ↓] ld47_is
def fR : List Ro := [⟨0, 0, 0, 0, ⟨#[]⟩, ⟨#[65, 58, 66]⟩, 500, ⟨#[]⟩, ⟨#[]⟩⟩, ⟨0, 0, 0, 0, ⟨#[]⟩, ⟨#[65]⟩, -500, ⟨#[]⟩, ⟨#[]⟩⟩]
def fL : Rows8 := [([65, 58, 66], 500), ([65], -500)]
theorem fL_is : ([] : Rows8) ++ rws fR = fL := rfl
theorem fL_fits : fits fL := ⟨by decide, by decide⟩
theorem fR_ok : ∀ r ∈ fR, okRow r := fun r hr => by
  simp only [fR, List.mem_cons, List.not_mem_nil, or_false] at hr
  rcases hr with rfl | rfl
  · exact ⟨by decide, by decide⟩
  · exact ⟨by decide, by decide⟩
theorem fL_held (k : List UInt8) : k ∈ ([[65], [65, 58, 66]] : List (List UInt8)) ↔ heldBy fL k := by
  constructor
  · intro h
    simp only [List.mem_cons, List.not_mem_nil, or_false] at h
    rcases h with rfl | rfl
    · exact ⟨[65], by decide, by simp⟩
    · exact ⟨[65, 58, 66], by decide, by simp⟩
  · rintro ⟨x, hx, hk⟩
    have := own_in fL x hx
    rw [mem_nub] at this
    simp only [fL, List.map_cons, List.map_nil, List.mem_cons, List.not_mem_nil, or_false] at this
    have e1 : ups [65, 58, 66] = [[65]] := by decide
    have e2 : ups [65] = [] := by decide
    rcases this with rfl | rfl
    · rw [e1] at hk
      simp only [List.mem_cons, List.not_mem_nil, or_false] at hk ⊢
      exact hk.elim .inr .inl
    · rw [e2] at hk
      simp only [List.mem_cons, List.not_mem_nil, or_false] at hk ⊢
      exact .inl hk
theorem fL_srt {hs : List (List UInt8)} (hnd : hs.Nodup) (hm : ∀ k, k ∈ hs ↔ heldBy fL k) : hs.length = 2 ∧ srt hs = [[65], [65, 58, 66]] := by
  have e : srt hs = srt [[65], [65, 58, 66]] := srt_eq hnd (by decide) (fun k => by rw [hm, fL_held])
  have e2 : srt [[65], [65, 58, 66]] = [[65], [65, 58, 66]] := by
    unfold srt
    exact List.mergeSort_of_pairwise (by simp; decide)
  rw [e2] at e
  refine ⟨?_, e⟩
  have := congrArg List.length e
  rwa [srt_len] at this
set_option maxRecDepth 100000 in
set_option maxHeartbeats 4000000 in
theorem first_any (w : World) : Calls Tryd.prog 6 #[] w fun e w' => e = .returned (.bool true) ∧ Below w.heap.size w w' := by
  obtain ⟨A, hA⟩ : ∃ A, A = Obj.cells #[.int .i64 0, .int .i64 0, .int .i64 0, .int .i64 0, .string ⟨#[]⟩, .string ⟨#[65, 58, 66]⟩, .int .i64 500, .string ⟨#[]⟩, .string ⟨#[]⟩, .int .i64 0, .int .i64 0, .int .i64 0, .int .i64 0, .string ⟨#[]⟩, .string ⟨#[65]⟩, .int .i64 (-500), .string ⟨#[]⟩, .string ⟨#[]⟩] 35 := ⟨_, rfl⟩
  obtain ⟨W, hW⟩ : ∃ W, W = (w.alloc (.cells #[.map none, .map none, .int .i64 0, .int .i64 0] 56)).alloc A := ⟨_, rfl⟩
  have hbW : Below w.heap.size w W := by rw [hW]; exact bal (bal (Below.refl _ _) _) _
  have hV : View W w.heap.size none none 0 [] := by rw [hW]; exact (View.made w 0).below (bal (Below.refl _ _) A)
  have hWs : W.heap.size = w.heap.size + 1 + 1 := by rw [hW]; simp
  have hRA : RowsAt W (some ⟨w.heap.size + 1, 0, none⟩) fR := fun k hk => by
    refine ⟨w.heap.size + 1, rfl, by omega, fun j u hu => ?_⟩
    have e : w.heap.size + 1 = (w.alloc (.cells #[.map none, .map none, .int .i64 0, .int .i64 0] 56)).heap.size := by simp
    rw [hW, e, hA, World.cell?_alloc_mark]
    have hk2 : k = 0 ∨ k = 1 := by simp [fR] at hk; omega
    have hj : j < 9 := by
      have := (List.getElem?_eq_some_iff.1 hu).1
      simpa [Ro.vals] using this
    have hj9 : j = 0 ∨ j = 1 ∨ j = 2 ∨ j = 3 ∨ j = 4 ∨ j = 5 ∨ j = 6 ∨ j = 7 ∨ j = 8 := by omega
    rcases hk2 with rfl | rfl <;> rcases hj9 with rfl | rfl | rfl | rfl | rfl | rfl | rfl | rfl | rfl <;> exact hu
  have dA := hide (apply_view (cR := 2) hV (by omega) (by decide) hRA (fun q h => by injection h with h; injection h with h; omega) (fun r hr => by simp only [fR, List.mem_cons, List.not_mem_nil, or_false] at hr; rcases hr with rfl | rfl <;> decide) (fun r hr => by simp only [fR, List.mem_cons, List.not_mem_nil, or_false] at hr; rcases hr with rfl | rfl <;> decide))
  have HBW := hide hbW
  have dN := hide (new_any w)
  have hfl : fR.length = 2 := rfl
  rw [hfl] at dA
  have HW := hide hWs
  clear hV hRA hbW hWs
  subst hW hA
  go_enter Tryd.func6, Tryd.ntmps6
  go_wp2_with fail
  refine (unhide dN).mono ?_
  rintro e w1 ⟨rfl, hw⟩
  rw [hw]
  clear hw w1
  go_wp2_with fail
  refine (unhide dA).mono ?_
  rintro e w1 hO
  rcases hO with ⟨hno, _⟩ | ⟨hok, rfl, mo, mr, hV1, hst⟩
  · exact absurd ⟨fR_ok, fL_fits⟩ hno
  rw [fL_is] at hV1
  have dS := hide (state_view hV1 (by decide))
  have HV1 := hide hV1; have HST := hide hst
  clear hV1 hst
  go_wp2_with fail
  refine (unhide dS).mono ?_
  rintro e w2 ⟨v, hs, rfl, hbal, hlen, hb2⟩
  have hsr := fL_srt hbal.nd hbal.mem
  have hV2 := (unhide HV1).below hb2
  have hrow := hbal.row
  rw [hsr.1, hsr.2] at hrow
  obtain ⟨q, cq, hv, hcl⟩ := bal_cells (l := [[65], [65, 58, 66]]) rfl hrow (i := 0) (by decide)
  have dT := hide (totals_any _ _ _ _ _ _ _ _ w2 hV2.at')
  have eD : DEB fL = 500 := by decide
  have eC : CRE fL = 500 := by decide
  rw [eD, eC] at dT
  subst hv
  have HB2 := hide hb2; have HV2 := hide hV2
  clear hbal hlen hsr hrow hb2 hV2 dS dA dN
  go_wp2_with fail
  refine (unhide dT).mono ?_
  rintro e w3 ⟨rfl, m, hw⟩
  have hV3 : View w3 w.heap.size mo mr _ fL := (unhide HV2).block (fun k _ => by rw [hw]; rfl)
  have eo : own fL [65] = -500 := by decide
  have er : roll ups fL [65] = 0 := by decide
  have eo2 : own fL [65, 58, 66] = 500 := by decide
  have hl1 : (ld47 (.pointer (some ⟨q, 0, none⟩))).run Tryd.prog w3 = .ok (.agg #[.string ⟨#[65]⟩, .int .i64 (-500), .int .i64 0]) w3 := by
    refine run_loadAt_mid (P := Tryd.prog) w3 q 0 47 [.string ⟨#[65]⟩, .int .i64 (-500), .int .i64 0] _ (fun j u hu => ?_) Tryd.underlying47 rfl size47
    have h := hcl j u (by
      show ([encStr [65], .int .i64 (own fL [65]), .int .i64 (roll ups fL [65])] : List Value)[j]? = some u
      rw [eo, er]
      exact hu)
    rw [hw]
    simpa using h
  have dRo := hide (roll_any ⟨#[65]⟩ (by decide) _ _ _ _ _ _ _ _ w3 hV3.at')
  have dOw := hide (own_any ⟨#[65, 58, 66]⟩ (by decide) _ _ _ _ _ _ _ _ w3 hV3.at')
  have e1 : roll ups fL (⟨#[65]⟩ : ByteArray).data.toList = 0 := er
  have e2 : own fL (⟨#[65, 58, 66]⟩ : ByteArray).data.toList = 500 := eo2
  rw [e1] at dRo
  rw [e2] at dOw
  have hst := st47
  have hsh := sh47
  have heg := eg47
  have heq := eq47_same
  have HB3 : Hid (Below w.heap.size w w3) := by
    have hs2 := (unhide HST).fr
    have h1 : Below w.heap.size w w2 := (unhide HBW).trans ((hs2.toBelow (B := w.heap.size) (by rw [unhide HW]; omega) (fun k hk => ?_)).trans ((unhide HB2).mono ?_))
    · rw [hw]; exact ⟨h1.os, h1.tape, h1.output, h1.size, h1.block⟩
    · rcases hk with rfl | hk | hk
      · exact Nat.le_refl _
      · cases hk
      · cases hk
    · have := hs2.size
      rw [unhide HW] at this
      omega
  clear hV3 hw e1 e2 eo er eo2 hcl
  go_wp2_with fail
  refine (unhide dRo).mono ?_
  rintro e w4 ⟨rfl, hw⟩
  rw [hw]
  clear hw w4
  go_wp2_with fail
  refine (unhide dOw).mono ?_
  rintro e w4 ⟨rfl, hw⟩
  rw [hw]
  clear hw w4
  go_wp2_with fail
  go_ret
  exact ⟨rfl, unhide HB3⟩
end Go.Proofs.YtgohddimnphbkaaDoor
