import Derived.Test.YtcafhmlpmbkhkaaGreatDoorW38
import Derived.Test.YtcafhmlpmbkhkaaGreatDoorW17
/- The program's Statement (21). -/
namespace Go.Proofs.YtcafhmlpmbkhkaaGreatDoor
open Go Go.Shelf Go.ChangeShapes Go.WideShapes Go.ChangeAt Go.RowKit Go.Maps
set_option linter.unusedVariables false
set_option linter.unusedSimpArgs false
theorem eg78 (args : Array Value) (w : World) : (callFunc 78 args).run Tryz.prog w = .ok (.enter 78 args) w := by kernel_rfl
theorem eg82 (args : Array Value) (w : World) : (callFunc 82 args).run Tryz.prog w = .ok (.enter 82 args) w := by kernel_rfl
theorem eg85 (args : Array Value) (w : World) : (callFunc 85 args).run Tryz.prog w = .ok (.enter 85 args) w := by kernel_rfl
theorem eg86 (args : Array Value) (w : World) : (callFunc 86 args).run Tryz.prog w = .ok (.enter 86 args) w := by kernel_rfl
theorem eg87 (args : Array Value) (w : World) : (callFunc 87 args).run Tryz.prog w = .ok (.enter 87 args) w := by kernel_rfl
theorem eg88 (args : Array Value) (w : World) : (callFunc 88 args).run Tryz.prog w = .ok (.enter 88 args) w := by kernel_rfl
theorem eg89 (args : Array Value) (w : World) : (callFunc 89 args).run Tryz.prog w = .ok (.enter 89 args) w := by kernel_rfl
def ageO (a0 a1 a2 a3 a4 : Int) : Obj := .cells #[.int .i64 a0, .int .i64 a1, .int .i64 a2, .int .i64 a3, .int .i64 a4] 48
theorem age_cell {W : World} {b : Nat} {a0 a1 a2 a3 a4 : Int} (h : W.heap[b]? = some (ageO a0 a1 a2 a3 a4)) (j : Nat) (hj : j < 5) : W.cell? ⟨b, 0 + j, none⟩ = some (.int .i64 ([a0, a1, a2, a3, a4].getD j 0)) := by
  unfold ageO at h
  rw [Nat.zero_add, cell_at h]
  have h5 : j = 0 ∨ j = 1 ∨ j = 2 ∨ j = 3 ∨ j = 4 := by omega
  rcases h5 with rfl | rfl | rfl | rfl | rfl <;> rfl
def fits64 (z : Int) : Prop := -9223372036854775808 ≤ z ∧ z ≤ 9223372036854775807
set_option maxRecDepth 100000 in
set_option maxHeartbeats 16000000 in
theorem statement_bad {w : World} {p : Option Addr} {n c : Nat} {X : List Qm} (hX : X.length = n) (acc : ByteArray) (hacc : acc.size < 4611686018427387904) (a0 a1 a2 a3 a4 : Int)
    (t : Int) (ht : fits64 t) (dg : Int) (hdg : fits64 dg) (hb : dg < 0 ∨ 6 < dg ∨ isDb t = false ∨ nameL acc.data.toList = false) :
    Calls Tryz.prog 21 #[.string acc, .slice p n c, agV a0 a1 a2 a3 a4, .int .i64 t, .int .i64 dg] w (TriOut w (ansS dg acc X [a0, a1, a2, a3, a4] t)) := by
  obtain ⟨w1, hw1⟩ : ∃ W, W = w.alloc (.cells #[.string acc] 9) := ⟨_, rfl⟩
  obtain ⟨w2, hw2⟩ : ∃ W, W = w1.alloc (ageO a0 a1 a2 a3 a4) := ⟨_, rfl⟩
  obtain ⟨w3, hw3⟩ : ∃ W, W = w2.alloc (.cells #[.int .i64 t] 3) := ⟨_, rfl⟩
  have b03 : Below w.heap.size w w3 := by rw [hw3, hw2, hw1]; exact bal (bal (bal (Below.refl _ _) _) _) _
  have hh1 : w1.heap[w.heap.size]? = some (.cells #[.string acc] 9) := by rw [hw1]; exact heap_new _ _
  have hh3 : w3.heap[w2.heap.size]? = some (.cells #[.int .i64 t] 3) := by rw [hw3]; exact heap_new _ _
  have b13 : Below w1.heap.size w1 w3 := by rw [hw3, hw2]; exact bal (bal (Below.refl _ _) _) _
  have hh31 : w3.heap[w.heap.size]? = some (.cells #[.string acc] 9) := (b13.block _ (Array.getElem?_eq_some_iff.1 hh1).1).trans hh1
  have l0 : w3.cell? ⟨w.heap.size, 0, none⟩ = some (.string acc) := by rw [cell_at hh31]; rfl
  have l2 : w3.cell? ⟨w2.heap.size, 0, none⟩ = some (.int .i64 t) := by rw [cell_at hh3]; rfl
  have HB := hide b03
  have hw1' := hw1.symm; have hw3' := hw3.symm
  have hw2' : w1.alloc (.cells #[.int .i64 a0, .int .i64 a1, .int .i64 a2, .int .i64 a3, .int .i64 a4] 48) = w2 := hw2.symm
  obtain ⟨db, hdb⟩ : ∃ b, b = isDb t := ⟨_, rfl⟩
  have DD := hide (isDay_any t w3)
  have DG := hide (good_any acc hacc w3)
  obtain ⟨nb, hnb⟩ : ∃ b, b = nameL acc.data.toList := ⟨_, rfl⟩
  rw [← hdb] at DD
  rw [← hnb] at DG
  unfold agV
  by_cases hbad : dg < 0 ∨ 6 < dg
  · have HE : Hid (ansS dg acc X [a0, a1, a2, a3, a4] t = ([], 1)) := by
      have e : errS dg acc X [a0, a1, a2, a3, a4] t = 1 := by unfold errS; rw [if_pos (by omega)]
      show _ = _
      unfold ansS
      rw [e, if_neg (by decide)]
    have D := hide (digits_no dg w3 hbad)
    clear hw1 hw2 hw3 b03 b13 hh1 hh3 hh31 hbad hb hX DG DD
    go_enter Tryz.func21, Tryz.ntmps21
    go_wp2_with (go_at_call 37; refine (unhide D).mono ?_; rintro e wz ⟨rfl, hwz⟩; rw [hwz]; clear hwz wz)
    go_ret2
    exact ⟨by rw [unhide HE]; rfl, unhide HB⟩
  · have D := hide (digits_yes dg w3 (by omega) (by omega))
    cases db with
    | false =>
      have HE : Hid (ansS dg acc X [a0, a1, a2, a3, a4] t = ([], 1)) := by
        have e : errS dg acc X [a0, a1, a2, a3, a4] t = 1 := by unfold errS; rw [if_pos (.inr (.inr hdb.symm))]
        show _ = _
        unfold ansS
        rw [e, if_neg (by decide)]
      clear hw1 hw2 hw3 b03 b13 hh1 hh3 hh31 hbad hb hX DG hdb
      go_enter Tryz.func21, Tryz.ntmps21
      go_wp2_with first | (go_at_call 37; refine (unhide D).mono ?_; rintro e wz ⟨rfl, hwz⟩; rw [hwz]; clear hwz wz) | (go_at_call 75; refine (unhide DD).mono ?_; rintro e wz ⟨rfl, hwz⟩; rw [hwz]; clear hwz wz)
      go_ret2
      exact ⟨by rw [unhide HE]; rfl, unhide HB⟩
    | true =>
      have hnf : nb = false := by
        rcases hb with h | h | h | h
        · exact absurd (.inl h) hbad
        · exact absurd (.inr h) hbad
        · rw [h] at hdb; cases hdb
        · rw [hnb, h]
      subst hnf
      have HE : Hid (ansS dg acc X [a0, a1, a2, a3, a4] t = ([], 60)) := by
        have e : errS dg acc X [a0, a1, a2, a3, a4] t = 60 := by
          unfold errS
          rw [if_neg (by rw [← hdb]; simp; omega), if_pos hnb.symm]
        show _ = _
        unfold ansS
        rw [e, if_neg (by decide)]
      clear hw1 hw2 hw3 b03 b13 hh1 hh3 hh31 hbad hb hX hdb hnb
      go_enter Tryz.func21, Tryz.ntmps21
      go_wp2_with first | (go_at_call 37; refine (unhide D).mono ?_; rintro e wz ⟨rfl, hwz⟩; rw [hwz]; clear hwz wz) | (go_at_call 75; refine (unhide DD).mono ?_; rintro e wz ⟨rfl, hwz⟩; rw [hwz]; clear hwz wz) | (go_at_call 76; refine (unhide DG).mono ?_; rintro e wz ⟨rfl, hbz⟩; have HBZ := hide ((unhide HB).trans (hbz.mono (unhide HB).size)); clear hbz)
      go_ret2
      exact ⟨by rw [unhide HE]; rfl, unhide HBZ⟩
end Go.Proofs.YtcafhmlpmbkhkaaGreatDoor
