import Derived.Test.YtfclknlpdcanpaaGreatDoorW35
import Derived.Test.YtfclknlpdcanpaaGreatDoorW23
import Derived.Laws.StructEq
import Derived.ChangeKeysEq
/- A play: lists (27): the answers that are lists. By tools/lsa.py. -/
namespace Go.Proofs.YtfclknlpdcanpaaGreatDoor.Kg
open Go Go.Shelf Go.ChangeShapes Go.WideShapes Go.ChangeAt Go.RowKit Go.Maps
set_option linter.unusedVariables false
set_option linter.unusedSimpArgs false
theorem PlayIs.stp {w0 w : World} {y : Nat} {T : Nat → Option Tw} {U : Nat → Prop} (h : PlayIs w0 w y T U) : Stp w := h.st.keep (h.bl.block 0 (by have := h.z0; omega))
theorem PlayIs.keepC {w0 w : World} {y : Nat} {T : Nat → Option Tw} {U : Nat → Prop} (h : PlayIs w0 w y T U) {L : Value} {n B : Nat} {X : List Cl} (hX : X.length = n) (own : w.ownsRow B kC.e kC.s L n (kC.flat X)) (le : n ≤ 100000) (hB : w0.heap.size ≤ B) (hn : ∀ q, L.ownBlock = some q → q ≠ y ∧ ¬ U q ∧ ∀ i, i < 3 → ∀ t, T i = some t → ¬ t.fp q) :
    Calls Tryz.prog 117 #[.pointer (some ⟨y, 6, none⟩), L] w fun e w' => e = .returned (.tuple #[]) ∧ ∃ U', PlayIs w0 w' y T U' ∧ Took w w' y U U' L := by
  have hlo : ∀ q, L.ownBlock = some q → w0.heap.size ≤ q := fun q hq => Nat.le_trans hB (row_lt own hq).1
  refine (h.kb.keepC hX (row_le own (Nat.zero_le _)) le (fun q hq => ⟨(hn q hq).1, by have := hlo q hq; have := h.z0; omega, (hn q hq).2.1⟩)).mono ?_
  rintro e w' ⟨rfl, U', hk, hT⟩
  exact ⟨rfl, U', h.tookL hT hk hlo (fun q hq => (hn q hq).2.2), hT⟩
theorem PlayIs.writeC {w0 w : World} {y : Nat} {T : Nat → Option Tw} {U : Nat → Prop} (h : PlayIs w0 w y T U) {L : Value} {n B : Nat} {X : List Cl} (hX : X.length = n) (own : w.ownsRow B kC.e kC.s L n (kC.flat X)) (le : n ≤ 100000) (hB : w0.heap.size ≤ B) (hn : ∀ q, L.ownBlock = some q → q ≠ y ∧ ¬ U q ∧ ∀ i, i < 3 → ∀ t, T i = some t → ¬ t.fp q) :
    Calls Tryz.prog 118 #[.pointer (some ⟨y, 6, none⟩), L] w fun e w' => e = .returned (.tuple #[]) ∧ ∃ U', PlayIs w0 w' y T U' ∧ Took w w' y U U' L := by
  have hlo : ∀ q, L.ownBlock = some q → w0.heap.size ≤ q := fun q hq => Nat.le_trans hB (row_lt own hq).1
  refine (h.kb.writeC hX (row_le own (Nat.zero_le _)) le (fun q hq => ⟨(hn q hq).1, by have := hlo q hq; have := h.z0; omega, (hn q hq).2.1⟩)).mono ?_
  rintro e w' ⟨rfl, U', hk, hT⟩
  exact ⟨rfl, U', h.tookL hT hk hlo (fun q hq => (hn q hq).2.2), hT⟩
theorem PlayIs.keepA {w0 w : World} {y : Nat} {T : Nat → Option Tw} {U : Nat → Prop} (h : PlayIs w0 w y T U) {L : Value} {n B : Nat} {X : List Al} (hX : X.length = n) (own : w.ownsRow B kA.e kA.s L n (kA.flat X)) (le : n ≤ 100000) (hB : w0.heap.size ≤ B) (hn : ∀ q, L.ownBlock = some q → q ≠ y ∧ ¬ U q ∧ ∀ i, i < 3 → ∀ t, T i = some t → ¬ t.fp q) :
    Calls Tryz.prog 114 #[.pointer (some ⟨y, 6, none⟩), L] w fun e w' => e = .returned (.tuple #[]) ∧ ∃ U', PlayIs w0 w' y T U' ∧ Took w w' y U U' L := by
  have hlo : ∀ q, L.ownBlock = some q → w0.heap.size ≤ q := fun q hq => Nat.le_trans hB (row_lt own hq).1
  refine (h.kb.keepA hX (row_le own (Nat.zero_le _)) le (fun q hq => ⟨(hn q hq).1, by have := hlo q hq; have := h.z0; omega, (hn q hq).2.1⟩)).mono ?_
  rintro e w' ⟨rfl, U', hk, hT⟩
  exact ⟨rfl, U', h.tookL hT hk hlo (fun q hq => (hn q hq).2.2), hT⟩
theorem PlayIs.writeA {w0 w : World} {y : Nat} {T : Nat → Option Tw} {U : Nat → Prop} (h : PlayIs w0 w y T U) {L : Value} {n B : Nat} {X : List Al} (hX : X.length = n) (own : w.ownsRow B kA.e kA.s L n (kA.flat X)) (le : n ≤ 100000) (hB : w0.heap.size ≤ B) (hn : ∀ q, L.ownBlock = some q → q ≠ y ∧ ¬ U q ∧ ∀ i, i < 3 → ∀ t, T i = some t → ¬ t.fp q) :
    Calls Tryz.prog 115 #[.pointer (some ⟨y, 6, none⟩), L] w fun e w' => e = .returned (.tuple #[]) ∧ ∃ U', PlayIs w0 w' y T U' ∧ Took w w' y U U' L := by
  have hlo : ∀ q, L.ownBlock = some q → w0.heap.size ≤ q := fun q hq => Nat.le_trans hB (row_lt own hq).1
  refine (h.kb.writeA hX (row_le own (Nat.zero_le _)) le (fun q hq => ⟨(hn q hq).1, by have := hlo q hq; have := h.z0; omega, (hn q hq).2.1⟩)).mono ?_
  rintro e w' ⟨rfl, U', hk, hT⟩
  exact ⟨rfl, U', h.tookL hT hk hlo (fun q hq => (hn q hq).2.2), hT⟩
/-- all blocks of a play lie below -/
theorem PlayIs.und {w0 w : World} {y : Nat} {T : Nat → Option Tw} {U : Nat → Prop} (h : PlayIs w0 w y T U) {q : Nat} (hq : w.heap.size ≤ q) : q ≠ y ∧ ¬ U q ∧ ∀ i, i < 3 → ∀ t, T i = some t → ¬ t.fp q :=
  ⟨fun e => by have := h.kb.lt; omega, fun e => by have := (h.kb.ul q e).2.2; omega, fun i hi t ht e => by have := (h.tw i hi t ht).lt e; omega⟩
/-- a list is kept, and the next one written over -/
theorem PlayIs.pairC {w0 wa wb w : World} {y : Nat} {T : Nat → Option Tw} {U : Nat → Prop} (ha : PlayIs w0 wa y T U) (h : PlayIs w0 w y T U) (hab : wa.heap.size ≤ wb.heap.size) {L M : Value} {n m : Nat} {X Y : List Cl} (hX : X.length = n) (hY : Y.length = m) (oL : wb.ownsRow wa.heap.size kC.e kC.s L n (kC.flat X)) (oL' : w.ownsRow wa.heap.size kC.e kC.s L n (kC.flat X)) (oM : w.ownsRow wb.heap.size kC.e kC.s M m (kC.flat Y)) (le : n ≤ 100000) (le' : m ≤ 100000) :
    Calls Tryz.prog 117 #[.pointer (some ⟨y, 6, none⟩), L] w fun e w' => e = .returned (.tuple #[]) ∧ Calls Tryz.prog 118 #[.pointer (some ⟨y, 6, none⟩), M] w' fun e w'' => e = .returned (.tuple #[]) ∧ ∃ U', PlayIs w0 w'' y T U' := by
  refine (h.keepC hX oL' le ha.bl.size (fun q hq => ha.und (row_lt oL' hq).1)).mono ?_
  rintro e w' ⟨rfl, U', hP, hT⟩
  refine ⟨rfl, ?_⟩
  have hML : ∀ q, M.ownBlock = some q → L.ownBlock ≠ some q := fun q hq e => by have := (row_lt oL e).2; have := (row_lt oM hq).1; omega
  have hu : ∀ q, M.ownBlock = some q → q ≠ y ∧ ¬ U q ∧ ∀ i, i < 3 → ∀ t, T i = some t → ¬ t.fp q := fun q hq => ha.und (by have := (row_lt oM hq).1; omega)
  refine (hP.writeC hY (row_far oM fun q hq => hT.block q (row_lt oM hq).2 (hu q hq).1 (hu q hq).2.1 (hML q hq)) le' (Nat.le_trans ha.bl.size hab) (fun q hq => ⟨(hu q hq).1, fun e => ?_, (hu q hq).2.2⟩)).mono ?_
  · rcases hT.new q e with h' | h' | h'
    · exact (hu q hq).2.1 h'
    · exact hML q hq h'
    · have := (row_lt oM hq).2; omega
  · rintro e w'' ⟨rfl, U'', hP', _⟩
    exact ⟨rfl, U'', hP'⟩
/-- a list is kept, and the next one written over -/
theorem PlayIs.pairA {w0 wa wb w : World} {y : Nat} {T : Nat → Option Tw} {U : Nat → Prop} (ha : PlayIs w0 wa y T U) (h : PlayIs w0 w y T U) (hab : wa.heap.size ≤ wb.heap.size) {L M : Value} {n m : Nat} {X Y : List Al} (hX : X.length = n) (hY : Y.length = m) (oL : wb.ownsRow wa.heap.size kA.e kA.s L n (kA.flat X)) (oL' : w.ownsRow wa.heap.size kA.e kA.s L n (kA.flat X)) (oM : w.ownsRow wb.heap.size kA.e kA.s M m (kA.flat Y)) (le : n ≤ 100000) (le' : m ≤ 100000) :
    Calls Tryz.prog 114 #[.pointer (some ⟨y, 6, none⟩), L] w fun e w' => e = .returned (.tuple #[]) ∧ Calls Tryz.prog 115 #[.pointer (some ⟨y, 6, none⟩), M] w' fun e w'' => e = .returned (.tuple #[]) ∧ ∃ U', PlayIs w0 w'' y T U' := by
  refine (h.keepA hX oL' le ha.bl.size (fun q hq => ha.und (row_lt oL' hq).1)).mono ?_
  rintro e w' ⟨rfl, U', hP, hT⟩
  refine ⟨rfl, ?_⟩
  have hML : ∀ q, M.ownBlock = some q → L.ownBlock ≠ some q := fun q hq e => by have := (row_lt oL e).2; have := (row_lt oM hq).1; omega
  have hu : ∀ q, M.ownBlock = some q → q ≠ y ∧ ¬ U q ∧ ∀ i, i < 3 → ∀ t, T i = some t → ¬ t.fp q := fun q hq => ha.und (by have := (row_lt oM hq).1; omega)
  refine (hP.writeA hY (row_far oM fun q hq => hT.block q (row_lt oM hq).2 (hu q hq).1 (hu q hq).2.1 (hML q hq)) le' (Nat.le_trans ha.bl.size hab) (fun q hq => ⟨(hu q hq).1, fun e => ?_, (hu q hq).2.2⟩)).mono ?_
  · rcases hT.new q e with h' | h' | h'
    · exact (hu q hq).2.1 h'
    · exact hML q hq h'
    · have := (row_lt oM hq).2; omega
  · rintro e w'' ⟨rfl, U'', hP', _⟩
    exact ⟨rfl, U'', hP'⟩
theorem Rv.lists {W : World} {d : Nat} {S : Nat → Prop} {C : List Cl} {A : List Al} {g : Int} (h : Rv W d S C A g) : ∃ pc cc pa ca, W.cell? ⟨d, 0, none⟩ = some (.slice pc C.length cc) ∧ W.cell? ⟨d, 1, none⟩ = some (.slice pa A.length ca) ∧ W.cell? ⟨d, 2, none⟩ = some (.int .i64 (1 + g)) ∧ Lies kC W pc C ∧ Lies kA W pa A ∧ (pc = none → cc = 0) ∧ (pa = none → ca = 0) := by
  obtain ⟨vc, va, h1, h2, h3, h4, h5, h6⟩ := h.ex
  obtain ⟨pc, cc, evc, n1, _⟩ := row_slice h2
  obtain ⟨pa, ca, eva, n2, _⟩ := row_slice h3
  subst evc eva
  exact ⟨pc, cc, pa, ca, by rw [cell_at h1]; rfl, by rw [cell_at h1]; rfl, by rw [cell_at h1]; rfl, own_lies kC_ok rfl h2, own_lies kA_ok rfl h3, fun e => (n1 e).2, fun e => (n2 e).2⟩
set_option maxRecDepth 100000 in
set_option maxHeartbeats 8000000 in
theorem listsA {w0 w : World} {y : Nat} {T : Nat → Option Tw} {U : Nat → Prop} (h : PlayIs w0 w y T U) {o : OpV} (ok : OpOk o) {j : Nat} (hj : j < 3) (hv : o.view = (j : Int)) {t : Tw} (ht : T j = some t) (hk : o.kind = 10) :
    Calls Tryz.prog 27 #[.pointer (some ⟨y, 0, none⟩), .agg o.arr] w fun e w' => e = .returned (.bool true) ∧ ∃ U', PlayIs w0 w' y T U' := by
  obtain ⟨bx, hbx⟩ : ∃ bx, bx = w.heap.size := ⟨_, rfl⟩
  obtain ⟨X, hX⟩ : ∃ X, X = w.alloc (.cells o.arr 62) := ⟨_, rfl⟩
  have hbX : Below w.heap.size w X := by rw [hX]; exact bal (Below.refl _ _) _
  have hXb : X.heap[bx]? = some (.cells o.arr 62 (0, 0)) := by rw [hX, hbx]; exact heap_new _ _
  have hbl : bx < X.heap.size := by rw [hX, hbx]; simp
  have x0 : X.cell? ⟨bx, 0, none⟩ = some (.int .i64 (j : Int)) := by rw [cell_at hXb, ← hv]; rfl
  have x1 : X.cell? ⟨bx, 1, none⟩ = some (.int .i64 o.kind) := by rw [cell_at hXb]; rfl
  have x2 : X.cell? ⟨bx, 2, none⟩ = some (.int .i64 o.day) := by rw [cell_at hXb]; rfl
  have x12 : X.cell? ⟨bx, 12, none⟩ = some (.string o.acct) := by rw [cell_at hXb]; rfl
  have hPX := h.below hbX
  have yP : X.cell? ⟨y, j, none⟩ = some (.pointer (some ⟨t.pb, 0, none⟩)) := by rw [hPX.p j hj, ht]; rfl
  have yD : X.cell? ⟨y, 3 + j, none⟩ = some (.pointer (some ⟨t.rb, 0, none⟩)) := by rw [hPX.d j hj, ht]; rfl
  have hI0 : (0 : Int) ≤ (j : Int) := by omega
  have hI3 : (j : Int) < 3 := by omega
  have HX : Hid (X = w.alloc (.cells o.arr 62)) := hX
  unfold OpV.arr at HX ⊢
  have HBX := hide hbx; have HP := hide hPX; have HG := hide (h.tw j hj t ht).p.good
  have hjy : y ≠ bx := fun e => by have := h.kb.lt; omega
  have HCL : Hid (∀ W, Below X.heap.size X W → Calls Tryz.prog 91 #[ptr t.pb] W fun e w' => ListOut kC W w' t.C e) := fun W hW => claims_vw ((unhide HP).below hW |>.tw j hj t ht).p
  have HAL : Hid (∀ W, Below X.heap.size X W → Calls Tryz.prog 93 #[ptr t.pb] W fun e w' => ListOut kA W w' t.A e) := fun W hW => allots_vw ((unhide HP).below hW |>.tw j hj t ht).p
  rw [hk] at x1
  have HT := hide ht
  clear h hXb hX hbx hbX hPX ok hk ht hv
  unfold ptr at HCL HAL
  go_enter Tryz.func27, Tryz.ntmps27
  go_upto_region 1 with fail
  rw [← unhide HX, ← unhide HBX]
  clear HX HBX
  go_wp2_with fail
  go_region
  go_wp2_with fail
  go_region
  go_wp2_with fail
  refine (unhide HAL _ (below_drewN (Below.refl _ X) 2)).mono ?_
  rintro e w1 ⟨pa, ca, rfl, hl1, hb1, ho1⟩
  have B1 : Below X.heap.size X w1 := (below_drewN (Below.refl _ X) 2).trans hb1
  have HL1 := hide hl1; have HO1 := hide ho1; have HB1 := hide B1
  clear hl1 ho1 hb1 B1
  go_wp2_with fail
  refine (unhide HCL w1 (unhide HB1)).mono ?_
  rintro e w2 ⟨pz, cz, rfl, _, hb2, _⟩
  have HB12 := hide hb2
  have HB2 := hide ((unhide HB1).trans (hb2.mono (unhide HB1).size))
  clear hb2
  go_wp2_with fail
  refine (unhide HAL w2 (unhide HB2)).mono ?_
  rintro e w3 ⟨pb, cb, rfl, hl3, hb3, ho3⟩
  have HL3 := hide hl3; have HO3 := hide ho3; have HB23 := hide hb3
  have HB3 := hide ((unhide HB2).trans (hb3.mono (unhide HB2).size))
  clear hl3 ho3 hb3
  have HP3 := hide ((unhide HP).below (unhide HB3))
  obtain ⟨pc, cc, pr, cr, _, r1, _, _, hlr, _, _⟩ := Rv.lists ((unhide HP3).tw j hj t (unhide HT)).r
  have hs1 := hide (sameA_any (W := w3) (p1 := pa) (p2 := pr) (c1 := ca) (c2 := cr) (L := t.A) rfl (by have := (unhide HG).l2; omega) (((unhide HL1).below (unhide HB12)).below (unhide HB23)) hlr)
  have hs2 : Hid (∀ m, Calls Tryz.prog 92 #[.slice pb t.A.length cb, .slice pr t.A.length cr] (w3.drewN m) fun e w' => e = .returned (.bool true) ∧ ∃ m', w' = (w3.drewN m).drewN m') := fun m => sameA_any rfl (by have := (unhide HG).l2; omega) ((unhide HL3).drewN m) (hlr.drewN m)
  clear hlr
  go_wp2_with fail
  refine (unhide hs1).mono ?_
  rintro e w4 ⟨rfl, m1, hw⟩
  rw [hw]
  clear hw w4
  have r1m : (w3.drewN m1).cell? ⟨t.rb, 1, none⟩ = some (.slice pr t.A.length cr) := r1
  go_wp2_with fail
  refine (unhide hs2 m1).mono ?_
  rintro e w4 ⟨rfl, m2, hw⟩
  obtain ⟨w5, hw5⟩ : ∃ w5, w5 = (w3.drewN m1).drewN m2 := ⟨_, rfl⟩
  rw [hw, ← hw5]
  have b5 : Below w3.heap.size w3 w5 := by rw [hw5]; exact below_drewN (below_drewN (Below.refl _ w3) m1) m2
  have z5 : w5.heap.size = w3.heap.size := by rw [hw5]; rfl
  have hpr := hide ((unhide HP).pairA ((unhide HP3).below b5) (wb := w2) (unhide HB2).size rfl rfl (row_far (row_le (unhide HO1) (by exact Nat.le_refl _)) (fun q hq => (unhide HB12).block q (row_lt (unhide HO1) hq).2)) (row_far (row_le (unhide HO1) (by exact Nat.le_refl _)) (fun q hq => (b5.block q (by have := (row_lt (unhide HO1) hq).2; have := (unhide HB12).size; have := (unhide HB23).size; omega)).trans (((unhide HB23).block q (by have := (row_lt (unhide HO1) hq).2; have := (unhide HB12).size; omega)).trans ((unhide HB12).block q (row_lt (unhide HO1) hq).2)))) (row_far (unhide HO3) (fun q hq => b5.block q (row_lt (unhide HO3) hq).2)) (by have := (unhide HG).l2; omega) (by have := (unhide HG).l2; omega))
  clear hw w4 hw5 b5 z5 r1 r1m hs1 hs2
  go_wp2_with fail
  refine (unhide hpr).mono ?_
  rintro e w6 ⟨rfl, hwr⟩
  have HWR := hide hwr
  clear hwr
  go_wp2_with fail
  refine (unhide HWR).mono ?_
  rintro e w7 ⟨rfl, hfin⟩
  have HF := hide hfin
  clear hfin
  go_wp2_with fail
  go_ret
  exact ⟨rfl, unhide HF⟩
set_option maxRecDepth 100000 in
set_option maxHeartbeats 8000000 in
theorem listsC {w0 w : World} {y : Nat} {T : Nat → Option Tw} {U : Nat → Prop} (h : PlayIs w0 w y T U) {o : OpV} (ok : OpOk o) {j : Nat} (hj : j < 3) (hv : o.view = (j : Int)) {t : Tw} (ht : T j = some t) (hk : o.kind = 9) :
    Calls Tryz.prog 27 #[.pointer (some ⟨y, 0, none⟩), .agg o.arr] w fun e w' => e = .returned (.bool true) ∧ ∃ U', PlayIs w0 w' y T U' := by
  obtain ⟨bx, hbx⟩ : ∃ bx, bx = w.heap.size := ⟨_, rfl⟩
  obtain ⟨X, hX⟩ : ∃ X, X = w.alloc (.cells o.arr 62) := ⟨_, rfl⟩
  have hbX : Below w.heap.size w X := by rw [hX]; exact bal (Below.refl _ _) _
  have hXb : X.heap[bx]? = some (.cells o.arr 62 (0, 0)) := by rw [hX, hbx]; exact heap_new _ _
  have hbl : bx < X.heap.size := by rw [hX, hbx]; simp
  have x0 : X.cell? ⟨bx, 0, none⟩ = some (.int .i64 (j : Int)) := by rw [cell_at hXb, ← hv]; rfl
  have x1 : X.cell? ⟨bx, 1, none⟩ = some (.int .i64 o.kind) := by rw [cell_at hXb]; rfl
  have x2 : X.cell? ⟨bx, 2, none⟩ = some (.int .i64 o.day) := by rw [cell_at hXb]; rfl
  have x12 : X.cell? ⟨bx, 12, none⟩ = some (.string o.acct) := by rw [cell_at hXb]; rfl
  have hPX := h.below hbX
  have yP : X.cell? ⟨y, j, none⟩ = some (.pointer (some ⟨t.pb, 0, none⟩)) := by rw [hPX.p j hj, ht]; rfl
  have yD : X.cell? ⟨y, 3 + j, none⟩ = some (.pointer (some ⟨t.rb, 0, none⟩)) := by rw [hPX.d j hj, ht]; rfl
  have hI0 : (0 : Int) ≤ (j : Int) := by omega
  have hI3 : (j : Int) < 3 := by omega
  have HX : Hid (X = w.alloc (.cells o.arr 62)) := hX
  unfold OpV.arr at HX ⊢
  have HBX := hide hbx; have HP := hide hPX; have HG := hide (h.tw j hj t ht).p.good
  have hjy : y ≠ bx := fun e => by have := h.kb.lt; omega
  have HCL : Hid (∀ W, Below X.heap.size X W → Calls Tryz.prog 91 #[ptr t.pb] W fun e w' => ListOut kC W w' t.C e) := fun W hW => claims_vw ((unhide HP).below hW |>.tw j hj t ht).p
  have HAL : Hid (∀ W, Below X.heap.size X W → Calls Tryz.prog 93 #[ptr t.pb] W fun e w' => ListOut kA W w' t.A e) := fun W hW => allots_vw ((unhide HP).below hW |>.tw j hj t ht).p
  rw [hk] at x1
  have HT := hide ht
  clear h hXb hX hbx hbX hPX ok hk ht hv
  unfold ptr at HCL HAL
  go_enter Tryz.func27, Tryz.ntmps27
  go_upto_region 1 with fail
  rw [← unhide HX, ← unhide HBX]
  clear HX HBX
  go_wp2_with fail
  go_region
  go_wp2_with fail
  go_region
  go_wp2_with fail
  refine (unhide HCL _ (below_drewN (Below.refl _ X) 2)).mono ?_
  rintro e w1 ⟨pa, ca, rfl, hl1, hb1, ho1⟩
  have B1 : Below X.heap.size X w1 := (below_drewN (Below.refl _ X) 2).trans hb1
  have HL1 := hide hl1; have HO1 := hide ho1; have HB1 := hide B1
  clear hl1 ho1 hb1 B1
  go_wp2_with fail
  refine (unhide HAL w1 (unhide HB1)).mono ?_
  rintro e w2 ⟨pz, cz, rfl, _, hb2, _⟩
  have HB12 := hide hb2
  have HB2 := hide ((unhide HB1).trans (hb2.mono (unhide HB1).size))
  clear hb2
  go_wp2_with fail
  refine (unhide HCL w2 (unhide HB2)).mono ?_
  rintro e w3 ⟨pb, cb, rfl, hl3, hb3, ho3⟩
  have HL3 := hide hl3; have HO3 := hide ho3; have HB23 := hide hb3
  have HB3 := hide ((unhide HB2).trans (hb3.mono (unhide HB2).size))
  clear hl3 ho3 hb3
  have HP3 := hide ((unhide HP).below (unhide HB3))
  obtain ⟨pr, cr, pq, cq, r1, _, _, hlr, _, _, _⟩ := Rv.lists ((unhide HP3).tw j hj t (unhide HT)).r
  have hs1 := hide (sameC_any (W := w3) (p1 := pa) (p2 := pr) (c1 := ca) (c2 := cr) (L := t.C) rfl (by have := (unhide HG).l1; omega) (((unhide HL1).below (unhide HB12)).below (unhide HB23)) hlr)
  have hs2 : Hid (∀ m, Calls Tryz.prog 90 #[.slice pb (t.C).length cb, .slice pr (t.C).length cr] (w3.drewN m) fun e w' => e = .returned (.bool true) ∧ ∃ m', w' = (w3.drewN m).drewN m') := fun m => sameC_any rfl (by have := (unhide HG).l1; omega) ((unhide HL3).drewN m) (hlr.drewN m)
  clear hlr
  go_wp2_with fail
  refine (unhide hs1).mono ?_
  rintro e w4 ⟨rfl, m1, hw⟩
  rw [hw]
  clear hw w4
  go_wp2_with fail
  refine (unhide hs2 m1).mono ?_
  rintro e w4 ⟨rfl, m2, hw⟩
  obtain ⟨w5, hw5⟩ : ∃ w5, w5 = (w3.drewN m1).drewN m2 := ⟨_, rfl⟩
  rw [hw, ← hw5]
  have b5 : Below w3.heap.size w3 w5 := by rw [hw5]; exact below_drewN (below_drewN (Below.refl _ w3) m1) m2
  have z5 : w5.heap.size = w3.heap.size := by rw [hw5]; rfl
  have hpr := hide ((unhide HP).pairC ((unhide HP3).below b5) (wb := w2) (unhide HB2).size rfl rfl (row_far (row_le (unhide HO1) (by exact Nat.le_refl _)) (fun q hq => (unhide HB12).block q (row_lt (unhide HO1) hq).2)) (row_far (row_le (unhide HO1) (by exact Nat.le_refl _)) (fun q hq => (b5.block q (by have := (row_lt (unhide HO1) hq).2; have := (unhide HB12).size; have := (unhide HB23).size; omega)).trans (((unhide HB23).block q (by have := (row_lt (unhide HO1) hq).2; have := (unhide HB12).size; omega)).trans ((unhide HB12).block q (row_lt (unhide HO1) hq).2)))) (row_far (unhide HO3) (fun q hq => b5.block q (row_lt (unhide HO3) hq).2)) (by have := (unhide HG).l1; omega) (by have := (unhide HG).l1; omega))
  clear hw w4 hw5 b5 z5 hs1 hs2
  go_wp2_with fail
  refine (unhide hpr).mono ?_
  rintro e w6 ⟨rfl, hwr⟩
  have HWR := hide hwr
  clear hwr
  go_wp2_with fail
  refine (unhide HWR).mono ?_
  rintro e w7 ⟨rfl, hfin⟩
  have HF := hide hfin
  clear hfin
  go_wp2_with fail
  go_ret
  exact ⟨rfl, unhide HF⟩
set_option maxRecDepth 100000 in
set_option maxHeartbeats 8000000 in
theorem listsO {w0 w : World} {y : Nat} {T : Nat → Option Tw} {U : Nat → Prop} (h : PlayIs w0 w y T U) {o : OpV} (ok : OpOk o) {j : Nat} (hj : j < 3) (hv : o.view = (j : Int)) {t : Tw} (ht : T j = some t) (hk : o.kind = 8) :
    Calls Tryz.prog 27 #[.pointer (some ⟨y, 0, none⟩), .agg o.arr] w fun e w' => e = .returned (.bool true) ∧ ∃ U', PlayIs w0 w' y T U' := by
  obtain ⟨bx, hbx⟩ : ∃ bx, bx = w.heap.size := ⟨_, rfl⟩
  obtain ⟨X, hX⟩ : ∃ X, X = w.alloc (.cells o.arr 62) := ⟨_, rfl⟩
  have hbX : Below w.heap.size w X := by rw [hX]; exact bal (Below.refl _ _) _
  have hXb : X.heap[bx]? = some (.cells o.arr 62 (0, 0)) := by rw [hX, hbx]; exact heap_new _ _
  have hbl : bx < X.heap.size := by rw [hX, hbx]; simp
  have x0 : X.cell? ⟨bx, 0, none⟩ = some (.int .i64 (j : Int)) := by rw [cell_at hXb, ← hv]; rfl
  have x1 : X.cell? ⟨bx, 1, none⟩ = some (.int .i64 o.kind) := by rw [cell_at hXb]; rfl
  have x2 : X.cell? ⟨bx, 2, none⟩ = some (.int .i64 o.day) := by rw [cell_at hXb]; rfl
  have x12 : X.cell? ⟨bx, 12, none⟩ = some (.string o.acct) := by rw [cell_at hXb]; rfl
  have hPX := h.below hbX
  have yP : X.cell? ⟨y, j, none⟩ = some (.pointer (some ⟨t.pb, 0, none⟩)) := by rw [hPX.p j hj, ht]; rfl
  have yD : X.cell? ⟨y, 3 + j, none⟩ = some (.pointer (some ⟨t.rb, 0, none⟩)) := by rw [hPX.d j hj, ht]; rfl
  have hI0 : (0 : Int) ≤ (j : Int) := by omega
  have hI3 : (j : Int) < 3 := by omega
  have HX : Hid (X = w.alloc (.cells o.arr 62)) := hX
  unfold OpV.arr at HX ⊢
  have HBX := hide hbx; have HP := hide hPX; have HG := hide (h.tw j hj t ht).p.good
  have hjy : y ≠ bx := fun e => by have := h.kb.lt; omega
  have HOP : Hid (∀ W, Below X.heap.size X W → ∀ d, Calls Tryz.prog 49 #[ptr t.pb, .string o.acct, .int .i64 d] W fun e w' => OpenOut W w' t.C t.A o.acct.data.toList d e) := fun W hW d => open_vw ((unhide HP).below hW |>.tw j hj t ht).p ((unhide HP).below hW).stp ok.n d
  have HRO : Hid (∀ W, Below X.heap.size X W → Calls Tryz.prog 116 #[.pointer (some ⟨t.rb, 0, none⟩), .string o.acct, .int .i64 o.day] W fun e w' => ∃ p c R, e = .returned (.slice p R.length c) ∧ OpenIs t.C t.A o.acct.data.toList o.day R ∧ Lies kC w' p R ∧ Below W.heap.size W w' ∧ R.length ≤ 1000) := fun W hW => ropen_any ((unhide HP).below hW |>.tw j hj t ht).r (unhide HG) o.acct o.day
  rw [hk] at x1
  have HT := hide ht
  have HXC := hide (And.intro x2 x12)
  clear h hXb hX hbx hbX hPX ok hk ht hv
  unfold ptr at HOP
  go_enter Tryz.func27, Tryz.ntmps27
  go_upto_region 1 with fail
  rw [← unhide HX, ← unhide HBX]
  clear HX HBX
  go_wp2_with fail
  go_region
  go_wp2_with fail
  go_region
  go_wp2_with fail
  refine (unhide HOP _ (below_drewN (Below.refl _ X) 2) _).mono ?_
  rintro e w1 ⟨pa, ca, R, rfl, hR, hl1, hb1, hRl, ho1⟩
  have B1 : Below X.heap.size X w1 := (below_drewN (Below.refl _ X) 2).trans hb1
  have HL1 := hide hl1; have HO1 := hide ho1; have HB1 := hide B1; have HRI := hide hR
  have a12 := keep1 B1 hbl (unhide HXC).2
  clear hl1 ho1 hb1 B1 hR x0 x1 x2 x12 yP yD
  go_wp2_with fail
  refine (unhide HOP w1 (unhide HB1) _).mono ?_
  rintro e w2 ⟨pz, cz, Rz, rfl, _, _, hb2, _, _⟩
  have HB12 := hide hb2
  have HB2 := hide ((unhide HB1).trans (hb2.mono (unhide HB1).size))
  have b12 := keep1 (unhide HB2) hbl (unhide HXC).2
  have b2 := keep1 (unhide HB2) hbl (unhide HXC).1
  clear hb2 a12
  go_wp2_with fail
  refine (unhide HOP w2 (unhide HB2) _).mono ?_
  rintro e w3' ⟨pb, cb, R3, rfl, hR3, hl3, hb3, _, ho3⟩
  have e3 := (unhide HG).open_same hR3 (unhide HRI)
  rw [e3] at hl3 ho3 ⊢
  have HL3 := hide hl3; have HO3 := hide ho3; have HB23' := hide hb3
  have HB3' := hide ((unhide HB2).trans (hb3.mono (unhide HB2).size))
  have c12 := keep1 (unhide HB3') hbl (unhide HXC).2
  have c2 := keep1 (unhide HB3') hbl (unhide HXC).1
  clear hl3 ho3 hb3 hR3 e3 b12 b2
  go_wp2_with fail
  refine (unhide HRO w3' (unhide HB3')).mono ?_
  rintro e w3 ⟨pr, cr, R4, rfl, hR4, hlr, hb4, _⟩
  have e4 := (unhide HG).open_same hR4 (unhide HRI)
  rw [e4] at hlr ⊢
  have HO3 : Hid (w3.ownsRow w2.heap.size kC.e kC.s (.slice pb R.length cb) R.length (kC.flat R)) := row_far (unhide HO3) fun q hq => hb4.block q (row_lt (unhide HO3) hq).2
  have HL3 : Hid (Lies kC w3 pb R) := (unhide HL3).below hb4
  have HB23 : Hid (Below w2.heap.size w2 w3) := (unhide HB23').trans (hb4.mono (unhide HB23').size)
  have HB3 : Hid (Below X.heap.size X w3) := (unhide HB3').trans (hb4.mono (unhide HB3').size)
  have HP3 := hide ((unhide HP).below (unhide HB3))
  clear hb4 hR4 e4 c12 c2 HB3' HB23'
  have hs1 := hide (sameC_any (W := w3) (p1 := pa) (p2 := pr) (c1 := ca) (c2 := cr) (L := R) rfl (by omega) (((unhide HL1).below (unhide HB12)).below (unhide HB23)) hlr)
  have hs2 : Hid (∀ m, Calls Tryz.prog 90 #[.slice pb (R).length cb, .slice pr (R).length cr] (w3.drewN m) fun e w' => e = .returned (.bool true) ∧ ∃ m', w' = (w3.drewN m).drewN m') := fun m => sameC_any rfl (by omega) ((unhide HL3).drewN m) (hlr.drewN m)
  clear hlr
  go_wp2_with fail
  refine (unhide hs1).mono ?_
  rintro e w4 ⟨rfl, m1, hw⟩
  rw [hw]
  clear hw w4
  go_wp2_with fail
  refine (unhide hs2 m1).mono ?_
  rintro e w4 ⟨rfl, m2, hw⟩
  obtain ⟨w5, hw5⟩ : ∃ w5, w5 = (w3.drewN m1).drewN m2 := ⟨_, rfl⟩
  rw [hw, ← hw5]
  have b5 : Below w3.heap.size w3 w5 := by rw [hw5]; exact below_drewN (below_drewN (Below.refl _ w3) m1) m2
  have z5 : w5.heap.size = w3.heap.size := by rw [hw5]; rfl
  have hpr := hide ((unhide HP).pairC ((unhide HP3).below b5) (wb := w2) (unhide HB2).size rfl rfl (row_far (row_le (unhide HO1) (by exact Nat.le_refl _)) (fun q hq => (unhide HB12).block q (row_lt (unhide HO1) hq).2)) (row_far (row_le (unhide HO1) (by exact Nat.le_refl _)) (fun q hq => (b5.block q (by have := (row_lt (unhide HO1) hq).2; have := (unhide HB12).size; have := (unhide HB23).size; omega)).trans (((unhide HB23).block q (by have := (row_lt (unhide HO1) hq).2; have := (unhide HB12).size; omega)).trans ((unhide HB12).block q (row_lt (unhide HO1) hq).2)))) (row_far (unhide HO3) (fun q hq => b5.block q (row_lt (unhide HO3) hq).2)) (by omega) (by omega))
  clear hw w4 hw5 b5 z5 hs1 hs2
  go_wp2_with fail
  refine (unhide hpr).mono ?_
  rintro e w6 ⟨rfl, hwr⟩
  have HWR := hide hwr
  clear hwr
  go_wp2_with fail
  refine (unhide HWR).mono ?_
  rintro e w7 ⟨rfl, hfin⟩
  have HF := hide hfin
  clear hfin
  go_wp2_with fail
  go_ret
  exact ⟨rfl, unhide HF⟩
end Go.Proofs.YtfclknlpdcanpaaGreatDoor.Kg
/- aged: ages are equal to themselves. -/
namespace Go.Proofs.YtfclknlpdcanpaaGreatDoor
open Go Go.Shelf Go.ChangeShapes Go.WideShapes Go.ChangeAt Go.RowKit Go.Maps
set_option linter.unusedVariables false
theorem info2 : (Tryz.prog.info? 2).map (fun i => (i.zero, i.size, i.bytes)) = some (some (.int .i64 0), 1, 8) := by kernel_rfl
theorem arr39 : Tryz.prog.underlying 74 = some (.array 5 2) := by kernel_rfl
theorem eg39 : Tryz.prog.eqGuardType Tryz.prog.depth 74 = false := by kernel_rfl
theorem cells2 : Tryz.prog.cellsOf 2 = 1 := by kernel_rfl
theorem eq39_same (a b c d e : Int) (w : World) : (Op.equalIn 10000 74 (.agg #[.int .i64 a, .int .i64 b, .int .i64 c, .int .i64 d, .int .i64 e]) (.agg #[.int .i64 a, .int .i64 b, .int .i64 c, .int .i64 d, .int .i64 e])).run Tryz.prog w = .ok true w := by
  obtain ⟨i, h1, h2, h3, h4⟩ := info_parts info2
  rw [run_equalIn_array w 9999 _ _ arr39 h1]
  rw [cells2]
  have e5 : List.range 5 = [0, 1, 2, 3, 4] := by decide
  rw [e5]
  simp [Op.eqItems, go_sem, Tryz.underlying2]
end Go.Proofs.YtfclknlpdcanpaaGreatDoor
