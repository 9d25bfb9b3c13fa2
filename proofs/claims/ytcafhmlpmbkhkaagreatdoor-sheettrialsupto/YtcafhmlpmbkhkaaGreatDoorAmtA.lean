/- Amounts' texts (50, 135), columns' parts (39, 41, 42, 47, 48, 49), goodDigits (37), cmp.Or (43). -/
import Derived.Test.YtcafhmlpmbkhkaaGreatDoorWorM
import Derived.Test.YtcafhmlpmbkhkaaGreatDoorMrk
import Derived.Test.YtcafhmlpmbkhkaaGreatDoorPthA
import Derived.Test.YtcafhmlpmbkhkaaGreatDoorTxtD
namespace Go.Proofs.YtcafhmlpmbkhkaaGreatDoor
open Go Go.Shelf Go.ChangeShapes Go.WideShapes Go.ChangeAt Go.RowKit Go.Maps
set_option linter.unusedVariables false
set_option linter.unusedSimpArgs false
/-- an amount that can be -/
def isA (a : Int) : Prop := -9223372036854775807 ≤ a ∧ a ≤ 9223372036854775807
set_option maxRecDepth 100000 in
set_option maxHeartbeats 2000000 in
theorem amount_any (a : Int) (d : Nat) (ha : isA a) (hd : d ≤ 6) (w : World) (hP : Kg.Pw w) : Calls Tryz.prog 50 #[.agg #[.int .i64 (d : Int)], .int .i64 a] w (TxtOut w (txt a d)) := by
  have b0 : Below w.heap.size w (w.alloc (.cells #[.int .i64 (d : Int)] 83)) := bal (Below.refl _ _) _
  have D := hide (mprint_any a d (w.alloc (.cells #[.int .i64 (d : Int)] 83)) ha.1 ha.2 hd (hP.below b0))
  have HB := hide b0
  clear hP b0 ha
  go_enter Tryz.func50, Tryz.ntmps50
  go_wp2_with fail
  refine (unhide D).mono ?_
  rintro e w1 ⟨rfl, hb⟩
  have HB1 : Hid (Below w.heap.size w w1) := (unhide HB).trans (hb.mono (unhide HB).size)
  clear hb D
  go_wp2_with fail
  go_ret
  exact ⟨rfl, unhide HB1⟩
/-- an amount that is not written where it is 0 -/
def unz (a : Int) (d : Nat) : Tx := if a = 0 then [] else txt a d
set_option maxRecDepth 100000 in
set_option maxHeartbeats 2000000 in
theorem unzero_any (a : Int) (d : Nat) (ha : isA a) (hd : d ≤ 6) (w : World) (hP : Kg.Pw w) : Calls Tryz.prog 135 #[.agg #[.int .i64 (d : Int)], .int .i64 a] w (TxtOut w (unz a d)) := by
  have b0 : Below w.heap.size w (w.alloc (.cells #[.int .i64 (d : Int)] 83)) := bal (Below.refl _ _) _
  have D := hide (amount_any a d ha hd (w.alloc (.cells #[.int .i64 (d : Int)] 83)) (hP.below b0))
  have HB := hide b0
  clear hP b0 ha
  by_cases hz : a = 0
  · have hzb : (a == 0) = true := beq_iff_eq.2 hz
    have e : unz a d = [] := if_pos hz
    rw [e]
    clear hz e
    go_enter Tryz.func135, Tryz.ntmps135
    go_wp2_with fail
    go_ret
    exact ⟨rfl, unhide HB⟩
  · have hzb : (a == 0) = false := beq_eq_false_iff_ne.2 hz
    have e : unz a d = txt a d := if_neg hz
    rw [e]
    clear e
    go_enter Tryz.func135, Tryz.ntmps135
    go_wp2_with fail
    refine (unhide D).mono ?_
    rintro e w1 ⟨rfl, hb⟩
    have HB1 : Hid (Below w.heap.size w w1) := (unhide HB).trans (hb.mono (unhide HB).size)
    clear hb D
    go_wp2_with fail
    go_ret
    exact ⟨rfl, unhide HB1⟩
theorem txB_data (s : ByteArray) : txB s.data.toList = s := rfl
attribute [local go_sem ↓] ldM_is
set_option maxRecDepth 100000 in
set_option maxHeartbeats 2000000 in
theorem accountOf_any (x : Cm) (w : World) : Calls Tryz.prog 47 #[cvM x] w (TxtOut w x.acc.data.toList) := by
  have b0 : Below w.heap.size w (w.alloc (obM x)) := bal (Below.refl _ _) _
  have HB := hide b0
  clear b0
  unfold obM at HB
  unfold cvM
  go_enter Tryz.func47, Tryz.ntmps47
  go_wp2_with fail
  go_ret
  exact ⟨rfl, unhide HB⟩
set_option maxRecDepth 100000 in
set_option maxHeartbeats 2000000 in
theorem debitOf_any (x : Cm) (w : World) : Calls Tryz.prog 41 #[cvM x] w fun e w' => e = .returned (.int .i64 x.deb) ∧ Below w.heap.size w w' := by
  have b0 : Below w.heap.size w (w.alloc (obM x)) := bal (Below.refl _ _) _
  have HB := hide b0
  clear b0
  unfold obM at HB
  unfold cvM
  go_enter Tryz.func41, Tryz.ntmps41
  go_wp2_with fail
  go_ret
  exact ⟨rfl, unhide HB⟩
set_option maxRecDepth 100000 in
set_option maxHeartbeats 2000000 in
theorem creditOf_any (x : Cm) (w : World) : Calls Tryz.prog 42 #[cvM x] w fun e w' => e = .returned (.int .i64 x.cre) ∧ Below w.heap.size w w' := by
  have b0 : Below w.heap.size w (w.alloc (obM x)) := bal (Below.refl _ _) _
  have HB := hide b0
  clear b0
  unfold obM at HB
  unfold cvM
  go_enter Tryz.func42, Tryz.ntmps42
  go_wp2_with fail
  go_ret
  exact ⟨rfl, unhide HB⟩
set_option maxRecDepth 100000 in
set_option maxHeartbeats 2000000 in
theorem debit_any (x : Cm) (d : Nat) (ha : isA x.deb) (hd : d ≤ 6) (w : World) (hP : Kg.Pw w) : Calls Tryz.prog 48 #[.agg #[.int .i64 (d : Int)], cvM x] w (TxtOut w (unz x.deb d)) := by
  have b0 : Below w.heap.size w (w.alloc (.cells #[.int .i64 (d : Int)] 83)) := bal (Below.refl _ _) _
  have b1 : Below w.heap.size w ((w.alloc (.cells #[.int .i64 (d : Int)] 83)).alloc (obM x)) := bal b0 _
  have D := hide (unzero_any x.deb d ha hd _ (hP.below b1))
  have HB := hide b1
  clear hP b0 b1 ha
  unfold obM at D HB
  unfold cvM
  go_enter Tryz.func48, Tryz.ntmps48
  go_wp2_with fail
  refine (unhide D).mono ?_
  rintro e w1 ⟨rfl, hb⟩
  have HB1 : Hid (Below w.heap.size w w1) := (unhide HB).trans (hb.mono (unhide HB).size)
  clear hb D
  go_wp2_with fail
  go_ret
  exact ⟨rfl, unhide HB1⟩
set_option maxRecDepth 100000 in
set_option maxHeartbeats 2000000 in
theorem credit_any (x : Cm) (d : Nat) (ha : isA x.cre) (hd : d ≤ 6) (w : World) (hP : Kg.Pw w) : Calls Tryz.prog 49 #[.agg #[.int .i64 (d : Int)], cvM x] w (TxtOut w (unz x.cre d)) := by
  have b0 : Below w.heap.size w (w.alloc (.cells #[.int .i64 (d : Int)] 83)) := bal (Below.refl _ _) _
  have b1 : Below w.heap.size w ((w.alloc (.cells #[.int .i64 (d : Int)] 83)).alloc (obM x)) := bal b0 _
  have D := hide (unzero_any x.cre d ha hd _ (hP.below b1))
  have HB := hide b1
  clear hP b0 b1 ha
  unfold obM at D HB
  unfold cvM
  go_enter Tryz.func49, Tryz.ntmps49
  go_wp2_with fail
  refine (unhide D).mono ?_
  rintro e w1 ⟨rfl, hb⟩
  have HB1 : Hid (Below w.heap.size w w1) := (unhide HB).trans (hb.mono (unhide HB).size)
  clear hb D
  go_wp2_with fail
  go_ret
  exact ⟨rfl, unhide HB1⟩
/-- why a column can't be -/
def faultM (x : Cm) : Int := if nameL x.acc.data.toList = true then (if x.deb < 0 ∨ x.cre < 0 then 10 else 0) else 60
set_option maxRecDepth 100000 in
set_option maxHeartbeats 2000000 in
theorem colFault_any (x : Cm) (hs : x.acc.size < 4611686018427387904) (w : World) : Calls Tryz.prog 39 #[cvM x] w fun e w' => e = .returned (.int .i64 (faultM x)) ∧ Below w.heap.size w w' := by
  obtain ⟨w0, hw0⟩ : ∃ w0, w0 = w.alloc (obM x) := ⟨_, rfl⟩
  have b0 : Below w.heap.size w w0 := by rw [hw0]; exact bal (Below.refl _ _) _
  have D := hide (good_any x.acc hs w0)
  obtain ⟨gb, hgb⟩ : ∃ b, b = nameL x.acc.data.toList := ⟨_, rfl⟩
  have hh : w0.heap[w.heap.size]? = some (obM x) := by rw [hw0]; exact heap_new _ _
  have hlt : w.heap.size < w0.heap.size := by rw [hw0]; simp
  rw [← hgb] at D
  have HH := hide hh; have HB := hide b0; have HGB := hide hgb; have HW := hide hw0; have HLT := hide hlt
  have hw0' : w.alloc (.cells #[.string x.acc, .int .i64 x.deb, .int .i64 x.cre] 31) = w0 := by rw [hw0]; rfl
  have c0 : w0.cell? ⟨w.heap.size, 0, none⟩ = some (.string x.acc) := by rw [cell_at (unhide HH)]; rfl
  clear hh b0 hgb hw0 hs hlt
  unfold cvM
  cases gb with
  | false =>
    have HE : Hid (faultM x = 60) := by show _ = _; unfold faultM; rw [← unhide HGB]; rfl
    go_enter Tryz.func39, Tryz.ntmps39
    go_wp2_with fail
    refine (unhide D).mono ?_
    rintro e w1 ⟨rfl, hb⟩
    have HB1 : Hid (Below w.heap.size w w1) := (unhide HB).trans (hb.mono (unhide HB).size)
    clear hb D
    go_wp2_with fail
    go_ret
    exact ⟨by rw [unhide HE]; rfl, unhide HB1⟩
  | true =>
    go_enter Tryz.func39, Tryz.ntmps39
    go_wp2_with fail
    refine (unhide D).mono ?_
    rintro e w1 ⟨rfl, hb⟩
    have HB1 : Hid (Below w.heap.size w w1) := (unhide HB).trans (hb.mono (unhide HB).size)
    have h1 := (hb.block _ (unhide HLT)).trans (unhide HH)
    have c1 : w1.cell? ⟨w.heap.size, 1, none⟩ = some (.int .i64 x.deb) := by rw [cell_at h1]; rfl
    have c2 : w1.cell? ⟨w.heap.size, 2, none⟩ = some (.int .i64 x.cre) := by rw [cell_at h1]; rfl
    clear hb D h1
    by_cases hd : x.deb < 0
    · have HE : Hid (faultM x = 10) := by show _ = _; unfold faultM; rw [← unhide HGB, if_pos rfl, if_pos (Or.inl hd)]
      go_wp2_with fail
      go_ret
      exact ⟨by rw [unhide HE]; rfl, unhide HB1⟩
    · by_cases hc : x.cre < 0
      · have HE : Hid (faultM x = 10) := by show _ = _; unfold faultM; rw [← unhide HGB, if_pos rfl, if_pos (Or.inr hc)]
        go_wp2_with fail
        go_ret
        exact ⟨by rw [unhide HE]; rfl, unhide HB1⟩
      · have HE : Hid (faultM x = 0) := by show _ = _; unfold faultM; rw [← unhide HGB, if_pos rfl, if_neg (by rintro (h | h); exact hd h; exact hc h)]
        go_wp2_with fail
        go_ret
        exact ⟨by rw [unhide HE]; rfl, unhide HB1⟩
set_option maxHeartbeats 1000000 in
theorem digits_yes (d : Int) (w : World) (h : 0 ≤ d) (h' : d ≤ 6) : Calls Tryz.prog 37 #[.int .i64 d] w fun e w' => e = .returned (.bool true) ∧ w' = w := by
  go_enter Tryz.func37, Tryz.ntmps37
  go_wp2
  go_ret
  exact ⟨by simp, rfl⟩
set_option maxHeartbeats 1000000 in
theorem digits_no (d : Int) (w : World) (h : d < 0 ∨ 6 < d) : Calls Tryz.prog 37 #[.int .i64 d] w fun e w' => e = .returned (.bool false) ∧ w' = w := by
  rcases h with h | h
  all_goals
    go_enter Tryz.func37, Tryz.ntmps37
    go_wp2
    go_ret
    exact ⟨by simp; try omega, rfl⟩
/-- the first that is not 0 -/
def orE (a b : Int) : Int := if a = 0 then b else a
set_option maxRecDepth 100000 in
set_option maxHeartbeats 4000000 in
theorem or_two (a b : Int) (g : Nat) (w : World) (h0 : w.cell? ⟨g, 0, none⟩ = some (.int .i64 a)) (h1 : w.cell? ⟨g, 1, none⟩ = some (.int .i64 b)) : Calls Tryz.prog 43 #[.slice (some ⟨g, 0, none⟩) 2 2] w fun e w' => e = .returned (.int .i64 (orE a b)) ∧ w' = w := by
  go_enter Tryz.func43, Tryz.ntmps43
  go_wp2_with fail
  go_loop [8] (fun iv => ∃ (k : Nat), k ≤ 2 ∧ iv = .int .i64 (k : Int) ∧ Hid (1 ≤ k → a = 0) ∧ Hid (2 ≤ k → b = 0)) (fun iv => (2 - intOf iv).toNat)
  case atStart => exact ⟨0, by omega, rfl, fun h => absurd h (by omega), fun h => absurd h (by omega)⟩
  case round =>
    obtain ⟨k, hk, rfl, ha, hb⟩ := hrel
    have hk3 : k = 0 ∨ k = 1 ∨ k = 2 := by omega
    rcases hk3 with rfl | rfl | rfl
    · by_cases hz : a = 0
      · subst hz
        go_wp2_with fail
        exact ⟨⟨1, by omega, by go_num, fun _ => (by first | rfl | trivial), fun h => absurd h (by omega)⟩, by simp [intOf]⟩
      · have hzb : (a != 0) = true := by rw [bne_iff_ne]; exact hz
        have HE : Hid (orE a b = a) := if_neg hz
        go_wp2_with fail
        go_ret
        exact ⟨by rw [unhide HE]; rfl, rfl⟩
    · have ea := unhide ha (by omega)
      subst ea
      by_cases hz : b = 0
      · subst hz
        go_wp2_with fail
        exact ⟨⟨2, by omega, by go_num, fun _ => (by first | rfl | trivial), fun _ => (by first | rfl | trivial)⟩, by simp [intOf]⟩
      · have hzb : (b != 0) = true := by rw [bne_iff_ne]; exact hz
        go_wp2_with fail
        go_ret
        exact ⟨rfl, rfl⟩
    · have ea := unhide ha (by omega)
      have eb := unhide hb (by omega)
      subst ea eb
      go_wp2_with fail
      go_ret
      exact ⟨rfl, rfl⟩
end Go.Proofs.YtcafhmlpmbkhkaaGreatDoor
