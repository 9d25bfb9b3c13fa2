import Derived.Test.YtbenciieenbmeaaGreatDoorW16
import Derived.Test.YtbenciieenbmeaaGreatDoorW15
/- answer: tally.take 106 of the least and the greatest. -/
namespace Go.Proofs.YtbenciieenbmeaaGreatDoor
open Go Go.Shelf Go.ChangeShapes Go.WideShapes Go.ChangeAt Go.RowKit Go.Maps
set_option linter.unusedVariables false
section
attribute [local go_sem ↓] stC_is ldC_is
set_option maxRecDepth 100000
set_option maxHeartbeats 4000000
theorem take30 {w : World} {g o : Nat} {z : Int} {e : Cl} (h : TAt w g o z e) (t n : Int) (s : ByteArray) (h0 : e.ty = 0) : Calls Tryz.prog 106 #[.pointer (some ⟨g, o, none⟩), .int .i64 3, cV t n s] w fun e' w' => e' = .returned (.tuple #[]) ∧ TAt w' g o z (⟨t, n, s⟩ : Cl) ∧ Tch w w' g o := by
  obtain ⟨X, hX⟩ : ∃ X, X = w.alloc (cO t n s) := ⟨_, rfl⟩
  have hBX : Below w.heap.size w X := by rw [hX]; exact Below.a1 w _
  have hXs : X.heap.size = w.heap.size + 1 := by rw [hX]; simp
  have hx0 : X.heap[w.heap.size]? = some (cO t n s) := by rw [hX]; exact heap_new _ _
  have hTX : TAt X g o z e := h.same (hBX.block _ h.lt)
  have hgl := h.lt
  have lE : ∀ P : Bel X, (ldC (.pointer (some ⟨g, o + 2, none⟩))).run Tryz.prog P.W = .ok e.val P.W := fun P => (hTX.same (P.h.block _ (by omega))).ldE
  have lB : ∀ P : Bel X, (ldC (.pointer (some ⟨w.heap.size, 0, none⟩))).run Tryz.prog P.W = .ok (cV t n s) P.W := fun P => run_ldC (c := ⟨t, n, s⟩) (fun j u hu => by
    rw [P.h.cell (p := ⟨w.heap.size, 0 + j, none⟩) (by show w.heap.size < _; omega), cellOf hx0, Nat.zero_add]; simpa [Cl.vals] using hu)
  have d : Hid (∀ P : Bel X, Calls Tryz.prog 78 #[e.val] P.W fun e' w' => e' = .returned (.bool (e.ty == 0)) ∧ ∃ q : Bel X, w' = q.W) := fun P => P.calls (isOver_any e.ty e.num e.tx P.W)
  have d3 : Hid (∀ P : Bel X, Calls Tryz.prog 55 #[cV t n s, e.val] P.W fun e' w' => e' = .returned (.int .i64 (cmpC ⟨t, n, s⟩ e)) ∧ ∃ q : Bel X, w' = q.W) := fun P => P.calls ((compare_any ⟨t, n, s⟩ e P.W).mono fun e' w' h => ⟨h.1, by rw [h.2]; exact cmpW_below _ _ _⟩)
  have HP : Hid (∀ P : Bel X, ∃ Y, (stC (.pointer (some ⟨g, o + 2, none⟩)) (cV t n s)).run Tryz.prog P.W = .ok () Y ∧ TAt Y g o z ⟨t, n, s⟩ ∧ Tch w Y g o) := fun P => by
    obtain ⟨Y, h1, h2, h3⟩ := (hTX.same (P.h.block _ (by omega))).putE ⟨t, n, s⟩
    exact ⟨Y, h1, h2, ((Tch.of_below hBX hgl o).trans (Tch.of_below P.h (by omega) o)).trans h3⟩
  have HN : Hid (∀ P : Bel X, TAt P.W g o z e ∧ Tch w P.W g o) := fun P => ⟨hTX.same (P.h.block _ (by omega)), (Tch.of_below hBX hgl o).trans (Tch.of_below P.h (by omega) o)⟩
  have HX := hide hX
  obtain ⟨ev, hev⟩ : ∃ v, v = e.val := ⟨_, rfl⟩
  rw [← hev] at lE d d3
  rw [beqT h0] at d
  clear h0 d3
  clear hX hBX hXs hx0 hTX hgl h hev
  go_enter Tryz.func106, Tryz.ntmps106
  go_upto_region 6 with fail
  rw [← unhide HX]
  refine wp_region_quiet_below (by kernel_rfl) (by kernel_rfl) ?_
  repeat (go_big_quiet_step (first | (go_at_call 78; refine unhide d _)))
  refine wpQuiet_nil ?_
  rintro _ ⟨P, rfl⟩
  obtain ⟨Y, hp, hY, hT⟩ := unhide HP P
  have HYT := hide hY
  have HTc := hide hT
  clear hY hT
  go_wp2_with fail
  refine bodyPost_end (v := .tuple #[]) (by simp [results, Tryz.results106]) rfl ?_
  exact ⟨rfl, unhide HYT, unhide HTc⟩
theorem take31 {w : World} {g o : Nat} {z : Int} {e : Cl} (h : TAt w g o z e) (t n : Int) (s : ByteArray) (h0 : ¬ e.ty = 0) (h1 : cmpC ⟨t, n, s⟩ e < 0) : Calls Tryz.prog 106 #[.pointer (some ⟨g, o, none⟩), .int .i64 3, cV t n s] w fun e' w' => e' = .returned (.tuple #[]) ∧ TAt w' g o z (⟨t, n, s⟩ : Cl) ∧ Tch w w' g o := by
  obtain ⟨X, hX⟩ : ∃ X, X = w.alloc (cO t n s) := ⟨_, rfl⟩
  have hBX : Below w.heap.size w X := by rw [hX]; exact Below.a1 w _
  have hXs : X.heap.size = w.heap.size + 1 := by rw [hX]; simp
  have hx0 : X.heap[w.heap.size]? = some (cO t n s) := by rw [hX]; exact heap_new _ _
  have hTX : TAt X g o z e := h.same (hBX.block _ h.lt)
  have hgl := h.lt
  have lE : ∀ P : Bel X, (ldC (.pointer (some ⟨g, o + 2, none⟩))).run Tryz.prog P.W = .ok e.val P.W := fun P => (hTX.same (P.h.block _ (by omega))).ldE
  have lB : ∀ P : Bel X, (ldC (.pointer (some ⟨w.heap.size, 0, none⟩))).run Tryz.prog P.W = .ok (cV t n s) P.W := fun P => run_ldC (c := ⟨t, n, s⟩) (fun j u hu => by
    rw [P.h.cell (p := ⟨w.heap.size, 0 + j, none⟩) (by show w.heap.size < _; omega), cellOf hx0, Nat.zero_add]; simpa [Cl.vals] using hu)
  have d : Hid (∀ P : Bel X, Calls Tryz.prog 78 #[e.val] P.W fun e' w' => e' = .returned (.bool (e.ty == 0)) ∧ ∃ q : Bel X, w' = q.W) := fun P => P.calls (isOver_any e.ty e.num e.tx P.W)
  have d3 : Hid (∀ P : Bel X, Calls Tryz.prog 55 #[cV t n s, e.val] P.W fun e' w' => e' = .returned (.int .i64 (cmpC ⟨t, n, s⟩ e)) ∧ ∃ q : Bel X, w' = q.W) := fun P => P.calls ((compare_any ⟨t, n, s⟩ e P.W).mono fun e' w' h => ⟨h.1, by rw [h.2]; exact cmpW_below _ _ _⟩)
  have HP : Hid (∀ P : Bel X, ∃ Y, (stC (.pointer (some ⟨g, o + 2, none⟩)) (cV t n s)).run Tryz.prog P.W = .ok () Y ∧ TAt Y g o z ⟨t, n, s⟩ ∧ Tch w Y g o) := fun P => by
    obtain ⟨Y, h1, h2, h3⟩ := (hTX.same (P.h.block _ (by omega))).putE ⟨t, n, s⟩
    exact ⟨Y, h1, h2, ((Tch.of_below hBX hgl o).trans (Tch.of_below P.h (by omega) o)).trans h3⟩
  have HN : Hid (∀ P : Bel X, TAt P.W g o z e ∧ Tch w P.W g o) := fun P => ⟨hTX.same (P.h.block _ (by omega)), (Tch.of_below hBX hgl o).trans (Tch.of_below P.h (by omega) o)⟩
  have HX := hide hX
  obtain ⟨ev, hev⟩ : ∃ v, v = e.val := ⟨_, rfl⟩
  rw [← hev] at lE d d3
  rw [beqF h0] at d
  obtain ⟨cm, hcm⟩ : ∃ x, x = cmpC ⟨t, n, s⟩ e := ⟨_, rfl⟩
  rw [← hcm] at d3 h1
  clear h0 hcm
  clear hX hBX hXs hx0 hTX hgl h hev
  go_enter Tryz.func106, Tryz.ntmps106
  go_upto_region 6 with fail
  rw [← unhide HX]
  refine wp_region_quiet_below (by kernel_rfl) (by kernel_rfl) ?_
  repeat (go_big_quiet_step (first | (go_at_call 78; refine unhide d _) | (go_at_call 55; refine unhide d3 _)))
  refine wpQuiet_nil ?_
  rintro _ ⟨P, rfl⟩
  obtain ⟨Y, hp, hY, hT⟩ := unhide HP P
  have HYT := hide hY
  have HTc := hide hT
  clear hY hT
  go_wp2_with fail
  refine bodyPost_end (v := .tuple #[]) (by simp [results, Tryz.results106]) rfl ?_
  exact ⟨rfl, unhide HYT, unhide HTc⟩
theorem take32 {w : World} {g o : Nat} {z : Int} {e : Cl} (h : TAt w g o z e) (t n : Int) (s : ByteArray) (h0 : ¬ e.ty = 0) (h1 : ¬ cmpC ⟨t, n, s⟩ e < 0) : Calls Tryz.prog 106 #[.pointer (some ⟨g, o, none⟩), .int .i64 3, cV t n s] w fun e' w' => e' = .returned (.tuple #[]) ∧ TAt w' g o z e ∧ Tch w w' g o := by
  obtain ⟨X, hX⟩ : ∃ X, X = w.alloc (cO t n s) := ⟨_, rfl⟩
  have hBX : Below w.heap.size w X := by rw [hX]; exact Below.a1 w _
  have hXs : X.heap.size = w.heap.size + 1 := by rw [hX]; simp
  have hx0 : X.heap[w.heap.size]? = some (cO t n s) := by rw [hX]; exact heap_new _ _
  have hTX : TAt X g o z e := h.same (hBX.block _ h.lt)
  have hgl := h.lt
  have lE : ∀ P : Bel X, (ldC (.pointer (some ⟨g, o + 2, none⟩))).run Tryz.prog P.W = .ok e.val P.W := fun P => (hTX.same (P.h.block _ (by omega))).ldE
  have lB : ∀ P : Bel X, (ldC (.pointer (some ⟨w.heap.size, 0, none⟩))).run Tryz.prog P.W = .ok (cV t n s) P.W := fun P => run_ldC (c := ⟨t, n, s⟩) (fun j u hu => by
    rw [P.h.cell (p := ⟨w.heap.size, 0 + j, none⟩) (by show w.heap.size < _; omega), cellOf hx0, Nat.zero_add]; simpa [Cl.vals] using hu)
  have d : Hid (∀ P : Bel X, Calls Tryz.prog 78 #[e.val] P.W fun e' w' => e' = .returned (.bool (e.ty == 0)) ∧ ∃ q : Bel X, w' = q.W) := fun P => P.calls (isOver_any e.ty e.num e.tx P.W)
  have d3 : Hid (∀ P : Bel X, Calls Tryz.prog 55 #[cV t n s, e.val] P.W fun e' w' => e' = .returned (.int .i64 (cmpC ⟨t, n, s⟩ e)) ∧ ∃ q : Bel X, w' = q.W) := fun P => P.calls ((compare_any ⟨t, n, s⟩ e P.W).mono fun e' w' h => ⟨h.1, by rw [h.2]; exact cmpW_below _ _ _⟩)
  have HP : Hid (∀ P : Bel X, ∃ Y, (stC (.pointer (some ⟨g, o + 2, none⟩)) (cV t n s)).run Tryz.prog P.W = .ok () Y ∧ TAt Y g o z ⟨t, n, s⟩ ∧ Tch w Y g o) := fun P => by
    obtain ⟨Y, h1, h2, h3⟩ := (hTX.same (P.h.block _ (by omega))).putE ⟨t, n, s⟩
    exact ⟨Y, h1, h2, ((Tch.of_below hBX hgl o).trans (Tch.of_below P.h (by omega) o)).trans h3⟩
  have HN : Hid (∀ P : Bel X, TAt P.W g o z e ∧ Tch w P.W g o) := fun P => ⟨hTX.same (P.h.block _ (by omega)), (Tch.of_below hBX hgl o).trans (Tch.of_below P.h (by omega) o)⟩
  have HX := hide hX
  obtain ⟨ev, hev⟩ : ∃ v, v = e.val := ⟨_, rfl⟩
  rw [← hev] at lE d d3
  rw [beqF h0] at d
  obtain ⟨cm, hcm⟩ : ∃ x, x = cmpC ⟨t, n, s⟩ e := ⟨_, rfl⟩
  rw [← hcm] at d3 h1
  clear h0 hcm
  clear hX hBX hXs hx0 hTX hgl h hev
  go_enter Tryz.func106, Tryz.ntmps106
  go_upto_region 6 with fail
  rw [← unhide HX]
  refine wp_region_quiet_below (by kernel_rfl) (by kernel_rfl) ?_
  repeat (go_big_quiet_step (first | (go_at_call 78; refine unhide d _) | (go_at_call 55; refine unhide d3 _)))
  refine wpQuiet_nil ?_
  rintro _ ⟨P, rfl⟩
  go_wp2_with fail
  refine bodyPost_end (v := .tuple #[]) (by simp [results, Tryz.results106]) rfl ?_
  exact ⟨rfl, (unhide HN P).1, (unhide HN P).2⟩
theorem take40 {w : World} {g o : Nat} {z : Int} {e : Cl} (h : TAt w g o z e) (t n : Int) (s : ByteArray) (h0 : e.ty = 0) : Calls Tryz.prog 106 #[.pointer (some ⟨g, o, none⟩), .int .i64 4, cV t n s] w fun e' w' => e' = .returned (.tuple #[]) ∧ TAt w' g o z (⟨t, n, s⟩ : Cl) ∧ Tch w w' g o := by
  obtain ⟨X, hX⟩ : ∃ X, X = w.alloc (cO t n s) := ⟨_, rfl⟩
  have hBX : Below w.heap.size w X := by rw [hX]; exact Below.a1 w _
  have hXs : X.heap.size = w.heap.size + 1 := by rw [hX]; simp
  have hx0 : X.heap[w.heap.size]? = some (cO t n s) := by rw [hX]; exact heap_new _ _
  have hTX : TAt X g o z e := h.same (hBX.block _ h.lt)
  have hgl := h.lt
  have lE : ∀ P : Bel X, (ldC (.pointer (some ⟨g, o + 2, none⟩))).run Tryz.prog P.W = .ok e.val P.W := fun P => (hTX.same (P.h.block _ (by omega))).ldE
  have lB : ∀ P : Bel X, (ldC (.pointer (some ⟨w.heap.size, 0, none⟩))).run Tryz.prog P.W = .ok (cV t n s) P.W := fun P => run_ldC (c := ⟨t, n, s⟩) (fun j u hu => by
    rw [P.h.cell (p := ⟨w.heap.size, 0 + j, none⟩) (by show w.heap.size < _; omega), cellOf hx0, Nat.zero_add]; simpa [Cl.vals] using hu)
  have d : Hid (∀ P : Bel X, Calls Tryz.prog 78 #[e.val] P.W fun e' w' => e' = .returned (.bool (e.ty == 0)) ∧ ∃ q : Bel X, w' = q.W) := fun P => P.calls (isOver_any e.ty e.num e.tx P.W)
  have d3 : Hid (∀ P : Bel X, Calls Tryz.prog 55 #[cV t n s, e.val] P.W fun e' w' => e' = .returned (.int .i64 (cmpC ⟨t, n, s⟩ e)) ∧ ∃ q : Bel X, w' = q.W) := fun P => P.calls ((compare_any ⟨t, n, s⟩ e P.W).mono fun e' w' h => ⟨h.1, by rw [h.2]; exact cmpW_below _ _ _⟩)
  have HP : Hid (∀ P : Bel X, ∃ Y, (stC (.pointer (some ⟨g, o + 2, none⟩)) (cV t n s)).run Tryz.prog P.W = .ok () Y ∧ TAt Y g o z ⟨t, n, s⟩ ∧ Tch w Y g o) := fun P => by
    obtain ⟨Y, h1, h2, h3⟩ := (hTX.same (P.h.block _ (by omega))).putE ⟨t, n, s⟩
    exact ⟨Y, h1, h2, ((Tch.of_below hBX hgl o).trans (Tch.of_below P.h (by omega) o)).trans h3⟩
  have HN : Hid (∀ P : Bel X, TAt P.W g o z e ∧ Tch w P.W g o) := fun P => ⟨hTX.same (P.h.block _ (by omega)), (Tch.of_below hBX hgl o).trans (Tch.of_below P.h (by omega) o)⟩
  have HX := hide hX
  obtain ⟨ev, hev⟩ : ∃ v, v = e.val := ⟨_, rfl⟩
  rw [← hev] at lE d d3
  rw [beqT h0] at d
  clear h0 d3
  clear hX hBX hXs hx0 hTX hgl h hev
  go_enter Tryz.func106, Tryz.ntmps106
  go_upto_region 9 with fail
  rw [← unhide HX]
  refine wp_region_quiet_below (by kernel_rfl) (by kernel_rfl) ?_
  repeat (go_big_quiet_step (first | (go_at_call 78; refine unhide d _)))
  refine wpQuiet_nil ?_
  rintro _ ⟨P, rfl⟩
  obtain ⟨Y, hp, hY, hT⟩ := unhide HP P
  have HYT := hide hY
  have HTc := hide hT
  clear hY hT
  go_wp2_with fail
  refine bodyPost_end (v := .tuple #[]) (by simp [results, Tryz.results106]) rfl ?_
  exact ⟨rfl, unhide HYT, unhide HTc⟩
theorem take41 {w : World} {g o : Nat} {z : Int} {e : Cl} (h : TAt w g o z e) (t n : Int) (s : ByteArray) (h0 : ¬ e.ty = 0) (h1 : cmpC ⟨t, n, s⟩ e > 0) : Calls Tryz.prog 106 #[.pointer (some ⟨g, o, none⟩), .int .i64 4, cV t n s] w fun e' w' => e' = .returned (.tuple #[]) ∧ TAt w' g o z (⟨t, n, s⟩ : Cl) ∧ Tch w w' g o := by
  obtain ⟨X, hX⟩ : ∃ X, X = w.alloc (cO t n s) := ⟨_, rfl⟩
  have hBX : Below w.heap.size w X := by rw [hX]; exact Below.a1 w _
  have hXs : X.heap.size = w.heap.size + 1 := by rw [hX]; simp
  have hx0 : X.heap[w.heap.size]? = some (cO t n s) := by rw [hX]; exact heap_new _ _
  have hTX : TAt X g o z e := h.same (hBX.block _ h.lt)
  have hgl := h.lt
  have lE : ∀ P : Bel X, (ldC (.pointer (some ⟨g, o + 2, none⟩))).run Tryz.prog P.W = .ok e.val P.W := fun P => (hTX.same (P.h.block _ (by omega))).ldE
  have lB : ∀ P : Bel X, (ldC (.pointer (some ⟨w.heap.size, 0, none⟩))).run Tryz.prog P.W = .ok (cV t n s) P.W := fun P => run_ldC (c := ⟨t, n, s⟩) (fun j u hu => by
    rw [P.h.cell (p := ⟨w.heap.size, 0 + j, none⟩) (by show w.heap.size < _; omega), cellOf hx0, Nat.zero_add]; simpa [Cl.vals] using hu)
  have d : Hid (∀ P : Bel X, Calls Tryz.prog 78 #[e.val] P.W fun e' w' => e' = .returned (.bool (e.ty == 0)) ∧ ∃ q : Bel X, w' = q.W) := fun P => P.calls (isOver_any e.ty e.num e.tx P.W)
  have d3 : Hid (∀ P : Bel X, Calls Tryz.prog 55 #[cV t n s, e.val] P.W fun e' w' => e' = .returned (.int .i64 (cmpC ⟨t, n, s⟩ e)) ∧ ∃ q : Bel X, w' = q.W) := fun P => P.calls ((compare_any ⟨t, n, s⟩ e P.W).mono fun e' w' h => ⟨h.1, by rw [h.2]; exact cmpW_below _ _ _⟩)
  have HP : Hid (∀ P : Bel X, ∃ Y, (stC (.pointer (some ⟨g, o + 2, none⟩)) (cV t n s)).run Tryz.prog P.W = .ok () Y ∧ TAt Y g o z ⟨t, n, s⟩ ∧ Tch w Y g o) := fun P => by
    obtain ⟨Y, h1, h2, h3⟩ := (hTX.same (P.h.block _ (by omega))).putE ⟨t, n, s⟩
    exact ⟨Y, h1, h2, ((Tch.of_below hBX hgl o).trans (Tch.of_below P.h (by omega) o)).trans h3⟩
  have HN : Hid (∀ P : Bel X, TAt P.W g o z e ∧ Tch w P.W g o) := fun P => ⟨hTX.same (P.h.block _ (by omega)), (Tch.of_below hBX hgl o).trans (Tch.of_below P.h (by omega) o)⟩
  have HX := hide hX
  obtain ⟨ev, hev⟩ : ∃ v, v = e.val := ⟨_, rfl⟩
  rw [← hev] at lE d d3
  rw [beqF h0] at d
  obtain ⟨cm, hcm⟩ : ∃ x, x = cmpC ⟨t, n, s⟩ e := ⟨_, rfl⟩
  rw [← hcm] at d3 h1
  clear h0 hcm
  clear hX hBX hXs hx0 hTX hgl h hev
  go_enter Tryz.func106, Tryz.ntmps106
  go_upto_region 9 with fail
  rw [← unhide HX]
  refine wp_region_quiet_below (by kernel_rfl) (by kernel_rfl) ?_
  repeat (go_big_quiet_step (first | (go_at_call 78; refine unhide d _) | (go_at_call 55; refine unhide d3 _)))
  refine wpQuiet_nil ?_
  rintro _ ⟨P, rfl⟩
  obtain ⟨Y, hp, hY, hT⟩ := unhide HP P
  have HYT := hide hY
  have HTc := hide hT
  clear hY hT
  go_wp2_with fail
  refine bodyPost_end (v := .tuple #[]) (by simp [results, Tryz.results106]) rfl ?_
  exact ⟨rfl, unhide HYT, unhide HTc⟩
theorem take42 {w : World} {g o : Nat} {z : Int} {e : Cl} (h : TAt w g o z e) (t n : Int) (s : ByteArray) (h0 : ¬ e.ty = 0) (h1 : ¬ cmpC ⟨t, n, s⟩ e > 0) : Calls Tryz.prog 106 #[.pointer (some ⟨g, o, none⟩), .int .i64 4, cV t n s] w fun e' w' => e' = .returned (.tuple #[]) ∧ TAt w' g o z e ∧ Tch w w' g o := by
  obtain ⟨X, hX⟩ : ∃ X, X = w.alloc (cO t n s) := ⟨_, rfl⟩
  have hBX : Below w.heap.size w X := by rw [hX]; exact Below.a1 w _
  have hXs : X.heap.size = w.heap.size + 1 := by rw [hX]; simp
  have hx0 : X.heap[w.heap.size]? = some (cO t n s) := by rw [hX]; exact heap_new _ _
  have hTX : TAt X g o z e := h.same (hBX.block _ h.lt)
  have hgl := h.lt
  have lE : ∀ P : Bel X, (ldC (.pointer (some ⟨g, o + 2, none⟩))).run Tryz.prog P.W = .ok e.val P.W := fun P => (hTX.same (P.h.block _ (by omega))).ldE
  have lB : ∀ P : Bel X, (ldC (.pointer (some ⟨w.heap.size, 0, none⟩))).run Tryz.prog P.W = .ok (cV t n s) P.W := fun P => run_ldC (c := ⟨t, n, s⟩) (fun j u hu => by
    rw [P.h.cell (p := ⟨w.heap.size, 0 + j, none⟩) (by show w.heap.size < _; omega), cellOf hx0, Nat.zero_add]; simpa [Cl.vals] using hu)
  have d : Hid (∀ P : Bel X, Calls Tryz.prog 78 #[e.val] P.W fun e' w' => e' = .returned (.bool (e.ty == 0)) ∧ ∃ q : Bel X, w' = q.W) := fun P => P.calls (isOver_any e.ty e.num e.tx P.W)
  have d3 : Hid (∀ P : Bel X, Calls Tryz.prog 55 #[cV t n s, e.val] P.W fun e' w' => e' = .returned (.int .i64 (cmpC ⟨t, n, s⟩ e)) ∧ ∃ q : Bel X, w' = q.W) := fun P => P.calls ((compare_any ⟨t, n, s⟩ e P.W).mono fun e' w' h => ⟨h.1, by rw [h.2]; exact cmpW_below _ _ _⟩)
  have HP : Hid (∀ P : Bel X, ∃ Y, (stC (.pointer (some ⟨g, o + 2, none⟩)) (cV t n s)).run Tryz.prog P.W = .ok () Y ∧ TAt Y g o z ⟨t, n, s⟩ ∧ Tch w Y g o) := fun P => by
    obtain ⟨Y, h1, h2, h3⟩ := (hTX.same (P.h.block _ (by omega))).putE ⟨t, n, s⟩
    exact ⟨Y, h1, h2, ((Tch.of_below hBX hgl o).trans (Tch.of_below P.h (by omega) o)).trans h3⟩
  have HN : Hid (∀ P : Bel X, TAt P.W g o z e ∧ Tch w P.W g o) := fun P => ⟨hTX.same (P.h.block _ (by omega)), (Tch.of_below hBX hgl o).trans (Tch.of_below P.h (by omega) o)⟩
  have HX := hide hX
  obtain ⟨ev, hev⟩ : ∃ v, v = e.val := ⟨_, rfl⟩
  rw [← hev] at lE d d3
  rw [beqF h0] at d
  obtain ⟨cm, hcm⟩ : ∃ x, x = cmpC ⟨t, n, s⟩ e := ⟨_, rfl⟩
  rw [← hcm] at d3 h1
  clear h0 hcm
  clear hX hBX hXs hx0 hTX hgl h hev
  go_enter Tryz.func106, Tryz.ntmps106
  go_upto_region 9 with fail
  rw [← unhide HX]
  refine wp_region_quiet_below (by kernel_rfl) (by kernel_rfl) ?_
  repeat (go_big_quiet_step (first | (go_at_call 78; refine unhide d _) | (go_at_call 55; refine unhide d3 _)))
  refine wpQuiet_nil ?_
  rintro _ ⟨P, rfl⟩
  go_wp2_with fail
  refine bodyPost_end (v := .tuple #[]) (by simp [results, Tryz.results106]) rfl ?_
  exact ⟨rfl, (unhide HN P).1, (unhide HN P).2⟩
end
/-- what a tally has come to by one cell more -/
def tkZ (k z : Int) (c : Cl) : Int := if k = 1 ∨ k = 2 then z + c.num else z
def tkE (k : Int) (e c : Cl) : Cl := if k = 3 then (if e.ty = 0 ∨ cmpC c e < 0 then c else e) else if k = 4 then (if e.ty = 0 ∨ cmpC c e > 0 then c else e) else e
theorem take_any {w : World} {g o : Nat} {z : Int} {e : Cl} (h : TAt w g o z e) (k : Int) (hk : k = 1 ∨ k = 2 ∨ k = 3 ∨ k = 4) (c : Cl) (hc : I64 c.num) : Calls Tryz.prog 106 #[.pointer (some ⟨g, o, none⟩), .int .i64 k, c.val] w fun e' w' => e' = .returned (.tuple #[]) ∧ TAt w' g o (tkZ k z c) (tkE k e c) ∧ Tch w w' g o := by
  obtain ⟨t, n, s⟩ := c
  rcases hk with rfl | rfl | rfl | rfl
  · exact take1 h t n s hc
  · exact take2 h t n s hc
  · show Calls Tryz.prog 106 _ w fun e' w' => e' = .returned (.tuple #[]) ∧ TAt w' g o z (if e.ty = 0 ∨ cmpC ⟨t, n, s⟩ e < 0 then ⟨t, n, s⟩ else e) ∧ Tch w w' g o
    by_cases h0 : e.ty = 0
    · rw [if_pos (.inl h0)]; exact take30 h t n s h0
    by_cases h1 : cmpC ⟨t, n, s⟩ e < 0
    · rw [if_pos (.inr h1)]; exact take31 h t n s h0 h1
    rw [if_neg (fun x => x.elim h0 h1)]; exact take32 h t n s h0 h1
  · show Calls Tryz.prog 106 _ w fun e' w' => e' = .returned (.tuple #[]) ∧ TAt w' g o z (if e.ty = 0 ∨ cmpC ⟨t, n, s⟩ e > 0 then ⟨t, n, s⟩ else e) ∧ Tch w w' g o
    by_cases h0 : e.ty = 0
    · rw [if_pos (.inl h0)]; exact take40 h t n s h0
    by_cases h1 : cmpC ⟨t, n, s⟩ e > 0
    · rw [if_pos (.inr h1)]; exact take41 h t n s h0 h1
    rw [if_neg (fun x => x.elim h0 h1)]; exact take42 h t n s h0 h1
end Go.Proofs.YtbenciieenbmeaaGreatDoor
/- answer: groups and their tallies; what a row tells them. -/
namespace Go.Proofs.YtbenciieenbmeaaGreatDoor
open Go Go.Shelf Go.ChangeShapes Go.WideShapes Go.ChangeAt Go.RowKit Go.Maps
set_option linter.unusedVariables false
set_option maxRecDepth 100000
set_option maxHeartbeats 4000000
/-- a group: its key, the block of its tallies, and what these have come to -/
structure Gr where
  key : List Cl
  t : Nat
  tl : List (Int × Cl)
def p14 (k : List Cl) : List Cl := (k ++ noK).take 14
theorem p14_len (k : List Cl) : (p14 k).length = 14 := by unfold p14 noK; rw [List.length_take, List.length_append, List.length_replicate]; omega
theorem p14_id {k : List Cl} (h : k.length = 14) : p14 k = k := by unfold p14; rw [← h, List.take_left]
def Gr.vals (x : Gr) : List Value := kcs (p14 x.key) ++ [.slice (some ⟨x.t, 0, none⟩) x.tl.length x.tl.length]
def kU : Kd Gr := ⟨Gr.vals, 43, 110, 119, 472⟩
theorem kU_ok : KdOK kU := kd_ok (fun x => by show (kcs _ ++ _).length = 43; rw [List.length_append, kcs_len, p14_len]; rfl) (by decide) (fun x u hu => by
  rcases List.mem_append.1 hu with h | h
  · exact kcs_one _ u h
  · rw [List.mem_singleton] at h; subst h; rfl) Tryz.underlying110 (z := .agg ((kcs noK).toArray.push (.slice none 0 0))) (by kernel_rfl) rfl (by decide)
/-- tallies in a block of their own -/
def TLs (W : World) (t : Nat) (tl : List (Int × Cl)) : Prop := ∃ cs : Array Value, W.heap[t]? = some (.cells cs 167 (0, 0)) ∧ cs.size = tl.length * 5 ∧ ∀ j (h : j < tl.length), W.rangeAt t (j * 5) (tlL tl[j].1 tl[j].2)
theorem TLs.lt {W : World} {t : Nat} {tl : List (Int × Cl)} (h : TLs W t tl) : t < W.heap.size := by
  obtain ⟨cs, h1, _⟩ := h
  exact (Array.getElem?_eq_some_iff.1 h1).1
theorem TLs.same {W W' : World} {t : Nat} {tl : List (Int × Cl)} (h : TLs W t tl) (hb : W'.heap[t]? = W.heap[t]?) : TLs W' t tl := by
  obtain ⟨cs, h1, h2, h3⟩ := h
  exact ⟨cs, hb.trans h1, h2, fun j hj i u hu => by have := h3 j hj i u hu; unfold World.cell? at *; rw [hb]; exact this⟩
theorem TLs.at' {W : World} {t : Nat} {tl : List (Int × Cl)} (h : TLs W t tl) (j : Nat) (hj : j < tl.length) : TAt W t (j * 5) tl[j].1 tl[j].2 := by
  obtain ⟨cs, h1, h2, h3⟩ := h
  refine ⟨⟨cs, h1, ?_⟩, h3 j hj⟩
  have : (j + 1) * 5 ≤ tl.length * 5 := Nat.mul_le_mul_right _ (by omega)
  omega
theorem TLs.set {W Y : World} {t : Nat} {tl : List (Int × Cl)} (h : TLs W t tl) (j : Nat) (hj : j < tl.length) (z : Int) (e : Cl) (hT : TAt Y t (j * 5) z e) (hc : Tch W Y t (j * 5)) : TLs Y t (tl.set j (z, e)) := by
  obtain ⟨cs, h1, h2, h3⟩ := h
  obtain ⟨cs', e1, e2, e3⟩ := hc.at' cs h1
  refine ⟨cs', e1, by rw [e2, h2, List.length_set], fun i hi => ?_⟩
  rw [List.length_set] at hi
  by_cases hij : i = j
  · subst hij
    rw [List.getElem_set_self]
    exact hT.r
  · rw [List.getElem_set_ne (fun e => hij e.symm)]
    intro q u hu
    have hq : q < 5 := by have := (List.getElem?_eq_some_iff.1 hu).1; simpa [tlL] using this
    have h4 := h3 i hi q u hu
    rw [cellOf h1] at h4
    rw [cellOf e1, ← h4]
    refine e3 _ ?_
    rcases Nat.lt_or_ge i j with h | h
    · have : (i + 1) * 5 ≤ j * 5 := Nat.mul_le_mul_right _ h
      omega
    · have : (j + 1) * 5 ≤ i * 5 := Nat.mul_le_mul_right _ (by omega)
      omega
/-- what an aggregate is told at a row -/
def cAt (V : List Cl) (x : Ag) : Cl := if x.kd = 1 then ⟨1, 1, ⟨#[]⟩⟩ else vat V x.of'
def tlN1 (V : List Cl) (f : Ag → Int × Cl) (x : Ag) : Int × Cl := (tkZ x.kd (f x).1 (cAt V x), tkE x.kd (f x).2 (cAt V x))
def badT (V : List Cl) (S : List Ag) : Bool := S.any (fun x => (cAt V x).ty == 0)
theorem badT_no {V : List Cl} {S : List Ag} (h : ∀ j (hj : j < S.length), ¬ (cAt V S[j]).ty = 0) : badT V S = false := by
  unfold badT
  rw [List.any_eq_false]
  intro f hf
  obtain ⟨j, hj, rfl⟩ := List.mem_iff_getElem.1 hf
  have := h j hj
  simpa using this
theorem badT_yes {V : List Cl} {S : List Ag} (k : Nat) (hk : k < S.length) (h : (cAt V S[k]).ty = 0) : badT V S = true := by
  unfold badT
  rw [List.any_eq_true]
  exact ⟨S[k], List.getElem_mem hk, by simpa using h⟩
/-- how far tell has come -/
def tlP (V : List Cl) (S : List Ag) (f : Ag → Int × Cl) (k : Nat) : List (Int × Cl) := (S.take k).map (tlN1 V f) ++ (S.drop k).map f
theorem tlP_zero (V : List Cl) (S : List Ag) (f : Ag → Int × Cl) : tlP V S f 0 = S.map f := by unfold tlP; rw [List.take_zero, List.drop_zero]; rfl
theorem tlP_end (V : List Cl) (S : List Ag) (f : Ag → Int × Cl) : tlP V S f S.length = S.map (tlN1 V f) := by unfold tlP; rw [List.take_length, List.drop_length]; simp
theorem tlP_len (V : List Cl) (S : List Ag) (f : Ag → Int × Cl) (k : Nat) : (tlP V S f k).length = S.length := by
  unfold tlP; rw [List.length_append, List.length_map, List.length_map, List.length_take, List.length_drop]; omega
theorem tlP_at (V : List Cl) (S : List Ag) (f : Ag → Int × Cl) (k : Nat) (hk : k < S.length) : (tlP V S f k)[k]'(by rw [tlP_len]; exact hk) = f S[k] := by
  unfold tlP
  rw [List.getElem_append_right (by rw [List.length_map, List.length_take]; omega)]
  simp only [List.length_map, List.length_take, Nat.min_eq_left (Nat.le_of_lt hk), Nat.sub_self]
  simp
theorem tlP_set (V : List Cl) (S : List Ag) (f : Ag → Int × Cl) (k : Nat) (hk : k < S.length) : (tlP V S f k).set k (tlN1 V f S[k]) = tlP V S f (k + 1) := by
  unfold tlP
  rw [List.take_succ_eq_append_getElem hk, List.map_append, List.set_append_right _ _ (by rw [List.length_map, List.length_take]; omega)]
  have e : k - ((S.take k).map (tlN1 V f)).length = 0 := by rw [List.length_map, List.length_take]; omega
  rw [e, List.drop_eq_getElem_cons hk, List.map_cons, List.set_cons_zero, List.append_assoc]
  rfl
end Go.Proofs.YtbenciieenbmeaaGreatDoor
