import Derived.Test.YtcafhmlpmbkhkaaGreatDoorW15
import Derived.Test.YtcafhmlpmbkhkaaGreatDoorW30
import Derived.Test.YtcafhmlpmbkhkaaGreatDoorW31
import Derived.Test.YtcafhmlpmbkhkaaGreatDoorW34
import Derived.Test.YtcafhmlpmbkhkaaGreatDoorW09
/- Days' texts (95, 99, 75, 96), claims' parts (79, 82, 85 to 90). -/
namespace Go.Proofs.YtcafhmlpmbkhkaaGreatDoor
open Go Go.Shelf Go.ChangeShapes Go.WideShapes Go.ChangeAt Go.RowKit Go.Maps
set_option linter.unusedVariables false
set_option linter.unusedSimpArgs false
open Classical in
/-- a day's text -/
noncomputable def dtx (n : Int) : Tx := if h : ∃ t : Nat × Nat × Nat, Dy.Dat t.1 t.2.1 t.2.2 n.toNat then Dy.tx h.choose.1 h.choose.2.1 h.choose.2.2 else []
theorem dtx_of {y m d : Nat} {n : Int} (h : Dy.Dat y m d n.toNat) : dtx n = Dy.tx y m d := by
  have hx : ∃ t : Nat × Nat × Nat, Dy.Dat t.1 t.2.1 t.2.2 n.toNat := ⟨(y, m, d), h⟩
  unfold dtx
  rw [dif_pos hx]
  obtain ⟨e1, e2, e3⟩ := hx.choose_spec.same h
  rw [e1, e2, e3]
/-- a day that can be -/
def isD (n : Int) : Prop := 1 ≤ n ∧ n ≤ 3652059
def isDb (n : Int) : Bool := decide (1 ≤ n) && decide (n ≤ 3652059)
theorem isDb_iff (n : Int) : isDb n = true ↔ isD n := by simp [isDb, isD]
set_option maxHeartbeats 1000000 in
theorem isDay_any (n : Int) (w : World) : Calls Tryz.prog 75 #[.int .i64 n] w fun e w' => e = .returned (.bool (isDb n)) ∧ w' = w := by
  by_cases h1 : 1 ≤ n
  · by_cases h2 : n ≤ 3652059
    · have HE : Hid (isDb n = true) := by show _ = _; rw [isDb_iff]; exact ⟨h1, h2⟩
      go_enter Tryz.func75, Tryz.ntmps75
      go_wp2
      go_ret
      exact ⟨by rw [unhide HE]; rfl, rfl⟩
    · have HE : Hid (isDb n = false) := by show _ = _; simp [isDb, h2]
      go_enter Tryz.func75, Tryz.ntmps75
      go_wp2
      go_ret
      exact ⟨by rw [unhide HE]; rfl, rfl⟩
  · have HE : Hid (isDb n = false) := by show _ = _; simp [isDb, h1]
    go_enter Tryz.func75, Tryz.ntmps75
    go_wp2
    go_ret
    exact ⟨by rw [unhide HE]; rfl, rfl⟩
set_option maxHeartbeats 1000000 in
theorem rIsD_any (n : Int) (w : World) : Calls Tryz.prog 96 #[.int .i64 n] w fun e w' => e = .returned (.bool (isDb n)) ∧ w' = w := by
  by_cases h1 : 1 ≤ n
  · by_cases h2 : n ≤ 3652059
    · have HE : Hid (isDb n = true) := by show _ = _; rw [isDb_iff]; exact ⟨h1, h2⟩
      go_enter Tryz.func96, Tryz.ntmps96
      go_wp2
      go_ret
      exact ⟨by rw [unhide HE]; rfl, rfl⟩
    · have HE : Hid (isDb n = false) := by show _ = _; simp [isDb, h2]
      go_enter Tryz.func96, Tryz.ntmps96
      go_wp2
      go_ret
      exact ⟨by rw [unhide HE]; rfl, rfl⟩
  · have HE : Hid (isDb n = false) := by show _ = _; simp [isDb, h1]
    go_enter Tryz.func96, Tryz.ntmps96
    go_wp2
    go_ret
    exact ⟨by rw [unhide HE]; rfl, rfl⟩
set_option maxHeartbeats 1000000 in
theorem dayText_any (n : Int) (h : isD n) (w : World) (hM : Dy.Mon w) (hP : Kg.Pw w) : Calls Tryz.prog 95 #[.int .i64 n] w (TxtOut w (dtx n)) := by
  obtain ⟨y, m, d, hd⟩ := Dy.dat_ex n.toNat (by have := h.1; omega) (by have := h.2; omega)
  have e : ((n.toNat : Nat) : Int) = n := by have := h.1; omega
  have D := Dy.dprint_ok y m d n.toNat w hM hP hd
  rw [e] at D
  have D := hide D
  rw [dtx_of hd]
  clear hM hP h hd e
  go_enter Tryz.func95, Tryz.ntmps95
  go_wp2_with fail
  refine (unhide D).mono ?_
  rintro e w1 ⟨rfl, hb⟩
  have HB := hide hb
  clear hb D
  go_wp2_with fail
  go_ret
  exact ⟨rfl, unhide HB⟩
set_option maxHeartbeats 1000000 in
theorem rdate_any (n : Int) (h : isD n) (w : World) : Calls Tryz.prog 99 #[.int .i64 n] w (TxtOut w (dtx n)) := by
  obtain ⟨y, m, d, hd⟩ := Dy.dat_ex n.toNat (by have := h.1; omega) (by have := h.2; omega)
  have e : ((n.toNat : Nat) : Int) = n := by have := h.1; omega
  have D := Dy.rprint_ok y m d n.toNat w hd
  rw [e] at D
  have D := hide D
  rw [dtx_of hd]
  clear h hd e
  go_enter Tryz.func99, Tryz.ntmps99
  go_wp2_with fail
  refine (unhide D).mono ?_
  rintro e w1 ⟨rfl, hb⟩
  have HB := hide hb
  clear hb D
  go_wp2_with fail
  go_ret
  exact ⟨rfl, unhide HB⟩
/-- the text of days over due -/
def ovd (at' due : Int) : Tx := if at' ≤ due then [] else Lib.itoa (at' - due)
attribute [local go_sem ↓] ldQ_is
set_option maxRecDepth 100000 in
set_option maxHeartbeats 2000000 in
theorem keyOf_any (x : Qm) (w : World) : Calls Tryz.prog 85 #[cvQ x] w (TxtOut w x.key.data.toList) := by
  have HB : Hid (Below w.heap.size w (w.alloc (obQ x))) := bal (Below.refl _ _) _
  unfold obQ at HB
  unfold cvQ
  go_enter Tryz.func85, Tryz.ntmps85
  go_wp2_with fail
  go_ret
  exact ⟨rfl, unhide HB⟩
set_option maxRecDepth 100000 in
set_option maxHeartbeats 2000000 in
theorem openOf_any (x : Qm) (w : World) : Calls Tryz.prog 82 #[cvQ x] w fun e w' => e = .returned (.int .i64 x.amt) ∧ Below w.heap.size w w' := by
  have HB : Hid (Below w.heap.size w (w.alloc (obQ x))) := bal (Below.refl _ _) _
  unfold obQ at HB
  unfold cvQ
  go_enter Tryz.func82, Tryz.ntmps82
  go_wp2_with fail
  go_ret
  exact ⟨rfl, unhide HB⟩
set_option maxRecDepth 100000 in
set_option maxHeartbeats 2000000 in
theorem dateText_any (x : Qm) (hd : isD x.day) (w : World) (hM : Dy.Mon w) (hP : Kg.Pw w) : Calls Tryz.prog 86 #[cvQ x] w (TxtOut w (dtx x.day)) := by
  have b1 : Below w.heap.size w (w.alloc (obQ x)) := bal (Below.refl _ _) _
  have D := hide (dayText_any x.day hd _ (hM.below b1) (hP.below b1))
  have HB := hide b1
  clear hP hM b1 hd
  unfold obQ at D HB
  unfold cvQ
  go_enter Tryz.func86, Tryz.ntmps86
  go_wp2_with fail
  refine (unhide D).mono ?_
  rintro e w1 ⟨rfl, hb⟩
  have HB1 : Hid (Below w.heap.size w w1) := (unhide HB).trans (hb.mono (unhide HB).size)
  clear hb D
  go_wp2_with fail
  go_ret
  exact ⟨rfl, unhide HB1⟩
set_option maxRecDepth 100000 in
set_option maxHeartbeats 2000000 in
theorem dueText_any (x : Qm) (hd : isD x.due) (w : World) (hM : Dy.Mon w) (hP : Kg.Pw w) : Calls Tryz.prog 87 #[cvQ x] w (TxtOut w (dtx x.due)) := by
  have b1 : Below w.heap.size w (w.alloc (obQ x)) := bal (Below.refl _ _) _
  have D := hide (dayText_any x.due hd _ (hM.below b1) (hP.below b1))
  have HB := hide b1
  clear hP hM b1 hd
  unfold obQ at D HB
  unfold cvQ
  go_enter Tryz.func87, Tryz.ntmps87
  go_wp2_with fail
  refine (unhide D).mono ?_
  rintro e w1 ⟨rfl, hb⟩
  have HB1 : Hid (Below w.heap.size w w1) := (unhide HB).trans (hb.mono (unhide HB).size)
  clear hb D
  go_wp2_with fail
  go_ret
  exact ⟨rfl, unhide HB1⟩
set_option maxRecDepth 100000 in
set_option maxHeartbeats 2000000 in
theorem open_any (x : Qm) (d : Nat) (ha : isA x.amt) (hd : d ≤ 6) (w : World) (hP : Kg.Pw w) : Calls Tryz.prog 88 #[.agg #[.int .i64 (d : Int)], cvQ x] w (TxtOut w (txt x.amt d)) := by
  have b1 : Below w.heap.size w ((w.alloc (.cells #[.int .i64 (d : Int)] 83)).alloc (obQ x)) := bal (bal (Below.refl _ _) _) _
  have D := hide (amount_any x.amt d ha hd _ (hP.below b1))
  have HB := hide b1
  clear hP b1 ha
  unfold obQ at D HB
  unfold cvQ
  go_enter Tryz.func88, Tryz.ntmps88
  go_wp2_with fail
  refine (unhide D).mono ?_
  rintro e w1 ⟨rfl, hb⟩
  have HB1 : Hid (Below w.heap.size w w1) := (unhide HB).trans (hb.mono (unhide HB).size)
  clear hb D
  go_wp2_with fail
  go_ret
  exact ⟨rfl, unhide HB1⟩
set_option maxRecDepth 100000 in
set_option maxHeartbeats 2000000 in
theorem overdue_any (x : Qm) (at' : Int) (h1 : isD at') (h2 : isD x.due) (w : World) (hP : Kg.Pw w) : Calls Tryz.prog 90 #[cvQ x, .int .i64 at'] w (TxtOut w (ovd at' x.due)) := by
  have b1 : Below w.heap.size w (w.alloc (obQ x)) := bal (Below.refl _ _) _
  have hr : -9223372036854775808 ≤ at' - x.due ∧ at' - x.due ≤ 9223372036854775807 := by obtain ⟨a, b⟩ := h1; obtain ⟨c, d⟩ := h2; omega
  have D := hide (Tryz.strconv_Itoa (at' - x.due) hr.1 hr.2 _ (hP.below b1))
  have HB := hide b1
  have g1 := hr.1; have g2 := hr.2
  clear hP b1 h1 h2 hr
  unfold obQ at D HB
  unfold cvQ
  by_cases hle : at' ≤ x.due
  · have HE : Hid (ovd at' x.due = []) := if_pos hle
    go_enter Tryz.func90, Tryz.ntmps90
    go_wp2_with fail
    go_ret
    exact ⟨by rw [unhide HE]; rfl, unhide HB⟩
  · have HE : Hid (ovd at' x.due = Lib.itoa (at' - x.due)) := if_neg hle
    go_enter Tryz.func90, Tryz.ntmps90
    go_wp2_with fail
    refine (unhide D).mono ?_
    rintro e w1 ⟨rfl, k, os, rfl⟩
    have HB1 : Hid (Below w.heap.size w (Sort.grow ((w.alloc (.cells #[.string x.key, .string x.acc, .int .i64 x.day, .int .i64 x.due, .int .i64 x.amt] 53)).drewN k) os)) := (unhide HB).trans ((below_gr _ k os).mono (unhide HB).size)
    clear D
    go_wp2_with fail
    go_ret
    exact ⟨by rw [unhide HE]; rfl, unhide HB1⟩
set_option maxRecDepth 100000 in
set_option maxHeartbeats 2000000 in
theorem over_clo (x : Qm) (b : Nat) (at' : Int) (h1 : isD at') (h2 : isD x.due) (w : World) (hP : Kg.Pw w) (hc : w.cell? ⟨b, 0, none⟩ = some (.int .i64 at')) : Calls Tryz.prog 89 #[cvQ x, .pointer (some ⟨b, 0, none⟩)] w (TxtOut w (ovd at' x.due)) := by
  have hbl : b < w.heap.size := World.block_lt_of_cell? w ⟨b, 0, none⟩ hc
  obtain ⟨w0, hw0⟩ : ∃ W, W = w.alloc (obQ x) := ⟨_, rfl⟩
  have b1 : Below w.heap.size w w0 := by rw [hw0]; exact bal (Below.refl _ _) _
  have hc0 : w0.cell? ⟨b, 0, none⟩ = some (.int .i64 at') := keep1 b1 hbl hc
  have hlv : (ldQ (.pointer (some ⟨w.heap.size, 0, none⟩))).run Tryz.prog w0 = .ok (cvQ x) w0 := by rw [hw0]; exact ld_varQ w x (Below.refl _ _)
  have D := hide (overdue_any x at' h1 h2 w0 (hP.below b1))
  have HB := hide b1
  have hw0' : w.alloc (.cells #[.string x.key, .string x.acc, .int .i64 x.day, .int .i64 x.due, .int .i64 x.amt] 53) = w0 := by rw [hw0]; rfl
  unfold cvQ at D hlv ⊢
  clear hP b1 h1 h2 hw0 hc hbl
  go_enter Tryz.func89, Tryz.ntmps89
  go_wp2_with fail
  refine (unhide D).mono ?_
  rintro e w1 ⟨rfl, hb⟩
  have HB1 : Hid (Below w.heap.size w w1) := (unhide HB).trans (hb.mono (unhide HB).size)
  clear hb D hlv hc0 hw0'
  go_wp2_with fail
  go_ret
  exact ⟨rfl, unhide HB1⟩
end Go.Proofs.YtcafhmlpmbkhkaaGreatDoor
/- Why a claim can't stand in a statement (79, 78). -/
namespace Go.Proofs.YtcafhmlpmbkhkaaGreatDoor
open Go Go.Shelf Go.ChangeShapes Go.WideShapes Go.ChangeAt Go.RowKit Go.Maps
set_option linter.unusedVariables false
set_option linter.unusedSimpArgs false
def goodQ (x : Qm) : Bool := keyS x.key && isDb x.day && isDb x.due && decide (1 ≤ x.amt)
def faultQ (acc : ByteArray) (x : Qm) : Int := if x.acc = acc then (if goodQ x = true then 0 else 1) else 76
theorem ba_ne {a b : ByteArray} (h : a ≠ b) : (a.toList == b.toList) = false := by
  rw [beq_eq_false_iff_ne, Lib.toList_data, Lib.toList_data]
  intro e
  apply h
  apply ByteArray.ext
  exact Array.toList_inj.1 e
theorem q_cells {W : World} {b : Nat} {x : Qm} (h : W.heap[b]? = some (obQ x)) : W.cell? ⟨b, 0, none⟩ = some (.string x.key) ∧ W.cell? ⟨b, 1, none⟩ = some (.string x.acc) ∧ W.cell? ⟨b, 2, none⟩ = some (.int .i64 x.day) ∧ W.cell? ⟨b, 3, none⟩ = some (.int .i64 x.due) ∧ W.cell? ⟨b, 4, none⟩ = some (.int .i64 x.amt) := by
  unfold obQ at h
  refine ⟨?_, ?_, ?_, ?_, ?_⟩ <;> (rw [cell_at h]; rfl)
set_option maxRecDepth 100000 in
set_option maxHeartbeats 4000000 in
theorem claimFault_any (x : Qm) (acc : ByteArray) (hs : x.key.size ≤ 9223372036854775807) (w : World) : Calls Tryz.prog 79 #[cvQ x, .string acc] w fun e w' => e = .returned (.int .i64 (faultQ acc x)) ∧ Below w.heap.size w w' := by
  obtain ⟨w0, hw0⟩ : ∃ W, W = w.alloc (obQ x) := ⟨_, rfl⟩
  have b1 : Below w.heap.size w w0 := by rw [hw0]; exact bal (Below.refl _ _) _
  obtain ⟨c0, c1, c2, c3, c4⟩ := q_cells (W := w0) (b := w.heap.size) (x := x) (by rw [hw0]; exact heap_new _ _)
  have DK := hide (isKey_any x.key hs w0)
  have D1 := hide (isDay_any x.day w0)
  have D2 := hide (isDay_any x.due w0)
  have hw0' : w.alloc (.cells #[.string x.key, .string x.acc, .int .i64 x.day, .int .i64 x.due, .int .i64 x.amt] 53) = w0 := by rw [hw0]; rfl
  have HB := hide b1
  obtain ⟨kb, hkb⟩ : ∃ b, b = keyS x.key := ⟨_, rfl⟩
  obtain ⟨db, hdb⟩ : ∃ b, b = isDb x.day := ⟨_, rfl⟩
  obtain ⟨ub, hub⟩ : ∃ b, b = isDb x.due := ⟨_, rfl⟩
  rw [← hkb] at DK
  rw [← hdb] at D1
  rw [← hub] at D2
  have HG : Hid (goodQ x = (kb && db && ub && decide (1 ≤ x.amt))) := by show _ = _; rw [hkb, hdb, hub]; rfl
  unfold cvQ
  clear b1 hw0 hs hkb hdb hub
  by_cases ha : x.acc = acc
  · have haT : (x.acc.toList == acc.toList) = true := by rw [ha]; simp
    have HA := hide ha
    clear ha
    cases kb with
    | false =>
      have HE : Hid (faultQ acc x = 1) := by show _ = _; unfold faultQ; rw [if_pos (unhide HA), unhide HG]; rfl
      go_enter Tryz.func79, Tryz.ntmps79
      go_wp2_with (go_at_call 162; refine (unhide DK).mono ?_; rintro e wz ⟨rfl, hwz⟩; rw [hwz]; clear hwz wz)
      go_ret
      exact ⟨by rw [unhide HE]; rfl, unhide HB⟩
    | true =>
      cases db with
      | false =>
        have HE : Hid (faultQ acc x = 1) := by show _ = _; unfold faultQ; rw [if_pos (unhide HA), unhide HG]; rfl
        go_enter Tryz.func79, Tryz.ntmps79
        go_wp2_with (first | (go_at_call 162; refine (unhide DK).mono ?_; rintro e wz ⟨rfl, hwz⟩; rw [hwz]; clear hwz wz) | (go_at_call 75; refine (unhide D1).mono ?_; rintro e wz ⟨rfl, hwz⟩; rw [hwz]; clear hwz wz))
        go_ret
        exact ⟨by rw [unhide HE]; rfl, unhide HB⟩
      | true =>
        cases ub with
        | false =>
          have HE : Hid (faultQ acc x = 1) := by show _ = _; unfold faultQ; rw [if_pos (unhide HA), unhide HG]; rfl
          go_enter Tryz.func79, Tryz.ntmps79
          go_wp2_with (go_at_call 162; refine (unhide DK).mono ?_; rintro e wz ⟨rfl, hwz⟩; rw [hwz]; clear hwz wz)
          refine (unhide D1).mono ?_
          rintro e wz ⟨rfl, hwz⟩
          rw [hwz]
          clear hwz wz D1
          go_wp2_with fail
          refine (unhide D2).mono ?_
          rintro e wz ⟨rfl, hwz⟩
          rw [hwz]
          clear hwz wz
          go_wp2_with fail
          go_ret
          exact ⟨by rw [unhide HE]; rfl, unhide HB⟩
        | true =>
          by_cases hm : x.amt < 1
          · have HE : Hid (faultQ acc x = 1) := by
              show _ = _
              unfold faultQ
              rw [if_pos (unhide HA), unhide HG, show decide (1 ≤ x.amt) = false from decide_eq_false (by omega)]
              rfl
            go_enter Tryz.func79, Tryz.ntmps79
            go_wp2_with (go_at_call 162; refine (unhide DK).mono ?_; rintro e wz ⟨rfl, hwz⟩; rw [hwz]; clear hwz wz)
            refine (unhide D1).mono ?_
            rintro e wz ⟨rfl, hwz⟩
            rw [hwz]
            clear hwz wz D1
            go_wp2_with fail
            refine (unhide D2).mono ?_
            rintro e wz ⟨rfl, hwz⟩
            rw [hwz]
            clear hwz wz
            go_wp2_with fail
            go_ret
            exact ⟨by rw [unhide HE]; rfl, unhide HB⟩
          · have HE : Hid (faultQ acc x = 0) := by
              show _ = _
              unfold faultQ
              rw [if_pos (unhide HA), unhide HG, show decide (1 ≤ x.amt) = true from decide_eq_true (by omega)]
              rfl
            go_enter Tryz.func79, Tryz.ntmps79
            go_wp2_with (go_at_call 162; refine (unhide DK).mono ?_; rintro e wz ⟨rfl, hwz⟩; rw [hwz]; clear hwz wz)
            refine (unhide D1).mono ?_
            rintro e wz ⟨rfl, hwz⟩
            rw [hwz]
            clear hwz wz D1
            go_wp2_with fail
            refine (unhide D2).mono ?_
            rintro e wz ⟨rfl, hwz⟩
            rw [hwz]
            clear hwz wz
            go_wp2_with fail
            go_ret
            exact ⟨by rw [unhide HE]; rfl, unhide HB⟩
  · have haF := ba_ne ha
    have HE : Hid (faultQ acc x = 76) := if_neg ha
    clear ha
    go_enter Tryz.func79, Tryz.ntmps79
    go_wp2_with fail
    go_ret
    exact ⟨by rw [unhide HE]; rfl, unhide HB⟩
attribute [local go_sem ↓] ldQ_is
set_option maxRecDepth 100000 in
set_option maxHeartbeats 2000000 in
theorem fault_clo (x : Qm) (acc : ByteArray) (b : Nat) (hs : x.key.size ≤ 9223372036854775807) (w : World) (hc : w.cell? ⟨b, 0, none⟩ = some (.string acc)) : Calls Tryz.prog 78 #[cvQ x, .pointer (some ⟨b, 0, none⟩)] w fun e w' => e = .returned (.int .i64 (faultQ acc x)) ∧ Below w.heap.size w w' := by
  have hbl : b < w.heap.size := World.block_lt_of_cell? w ⟨b, 0, none⟩ hc
  obtain ⟨w0, hw0⟩ : ∃ W, W = w.alloc (obQ x) := ⟨_, rfl⟩
  have b1 : Below w.heap.size w w0 := by rw [hw0]; exact bal (Below.refl _ _) _
  have hc0 : w0.cell? ⟨b, 0, none⟩ = some (.string acc) := keep1 b1 hbl hc
  have hlv : (ldQ (.pointer (some ⟨w.heap.size, 0, none⟩))).run Tryz.prog w0 = .ok (cvQ x) w0 := by rw [hw0]; exact ld_varQ w x (Below.refl _ _)
  have D := hide (claimFault_any x acc hs w0)
  have HB := hide b1
  have hw0' : w.alloc (.cells #[.string x.key, .string x.acc, .int .i64 x.day, .int .i64 x.due, .int .i64 x.amt] 53) = w0 := by rw [hw0]; rfl
  unfold cvQ at D hlv ⊢
  clear b1 hs hw0 hc hbl
  go_enter Tryz.func78, Tryz.ntmps78
  go_wp2_with fail
  refine (unhide D).mono ?_
  rintro e w1 ⟨rfl, hb⟩
  have HB1 : Hid (Below w.heap.size w w1) := (unhide HB).trans (hb.mono (unhide HB).size)
  clear hb D hlv hc0 hw0'
  go_wp2_with fail
  go_ret
  exact ⟨rfl, unhide HB1⟩
end Go.Proofs.YtcafhmlpmbkhkaaGreatDoor
/- Lines of a pair in memory. -/
namespace Go.Proofs.YtcafhmlpmbkhkaaGreatDoor
open Go Go.Shelf Go.ChangeShapes Go.WideShapes Go.ChangeAt Go.RowKit Go.Maps
set_option linter.unusedVariables false
structure Lm where
  lab : ByteArray
  amt : Int
def Lm.vals (x : Lm) : List Value := [.string x.lab, .int .i64 x.amt]
def kL : Kd Lm := ⟨Lm.vals, 2, 133, 166, 24⟩
theorem kL_ok : KdOK kL := kd_ok (fun _ => rfl) (by decide) (fun x u hu => by simp [kL, Lm.vals] at hu; rcases hu with rfl | rfl <;> rfl) Tryz.underlying133 (z := .agg #[.string ⟨#[]⟩, .int .i64 0]) (by kernel_rfl) rfl (by decide)
def ldL (x : Value) : Sem Value := Instr.loadAt 166 x
theorem ldL_is (x : Value) : Instr.loadAt 166 x = ldL x := rfl
theorem sizL : (Tryz.prog.info? 166).map (·.size) = some 2 := by kernel_rfl
def cvL (x : Lm) : Value := .agg #[.string x.lab, .int .i64 x.amt]
theorem run_ldL {w : World} {b o : Nat} {x : Lm} (h : w.rangeAt b o x.vals) : (ldL (.pointer (some ⟨b, o, none⟩))).run Tryz.prog w = .ok (cvL x) w :=
  run_loadAt_mid (P := Tryz.prog) w b o 166 x.vals _ h Tryz.underlying166 rfl sizL
/-- the block of a variable that holds one -/
def obL (x : Lm) : Obj := .cells #[.string x.lab, .int .i64 x.amt] 166
theorem ld_varL (w : World) (x : Lm) {W : World} (hb : Below (w.alloc (obL x)).heap.size (w.alloc (obL x)) W) : (ldL (.pointer (some ⟨w.heap.size, 0, none⟩))).run Tryz.prog W = .ok (cvL x) W := by
  refine run_ldL fun j u hu => ?_
  rw [Nat.zero_add]
  have h1 : (w.alloc (obL x)).cell? ⟨w.heap.size, j, none⟩ = some u := by
    have := cell_at (i := j) (heap_new w (obL x))
    rw [this]
    simpa [Lm.vals] using hu
  exact keep1 hb (by simp) h1
theorem Lies.ldL {W : World} {p : Option Addr} {L : List Lm} (h : Lies kL W p L) {k : Nat} (hk : k < L.length) : ∃ b o, p = some ⟨b, o, none⟩ ∧ b < W.heap.size ∧ (ldL (.pointer (some ⟨b, o + k * 2, none⟩))).run Tryz.prog W = .ok (cvL L[k]) W := by
  obtain ⟨b, o, e, hb, hr⟩ := h.2 k hk
  exact ⟨b, o, e, hb, run_ldL hr⟩
end Go.Proofs.YtcafhmlpmbkhkaaGreatDoor
