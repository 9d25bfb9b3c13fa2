import Derived.Test.YtcafhmlpmbkhkaaGreatDoorW10
import Derived.Test.YtcafhmlpmbkhkaaGreatDoorW11
import Derived.Test.YtcafhmlpmbkhkaaGreatDoorW14
/- Amounts' texts (50, 135), columns' parts (39, 41, 42, 47, 48, 49), goodDigits (37), cmp.Or (43). -/
namespace Go.Proofs.YtcafhmlpmbkhkaaGreatDoor
open Go Go.Shelf Go.ChangeShapes Go.WideShapes Go.ChangeAt Go.RowKit Go.Maps
set_option linter.unusedVariables false
set_option linter.unusedSimpArgs false
/-- an amount that can be -/
def isA (a : Int) : Prop := -9223372036854775807 ≤ a ∧ a ≤ 9223372036854775807
set_option maxRecDepth 100000 in
set_option maxHeartbeats 2000000 in
theorem amount_any (a : Int) (d : Nat) (ha : isA a) (hd : d ≤ 6) (w : World) (hP : Kg.Pw w) : Calls Tryz.prog 50 #[.agg #[.int .i64 (d : Int)], .int .i64 a] w (TxtOut w (txt a d)) := by
  have b0 : Below w.heap.size w (w.alloc (.cells #[.int .i64 (d : Int)] 83)) := bal (Below.refl _ _) _
  have D := hide (mprint_any a d (w.alloc (.cells #[.int .i64 (d : Int)] 83)) ha.1 ha.2 hd (hP.below b0))
  have HB := hide b0
  clear hP b0 ha
  go_enter Tryz.func50, Tryz.ntmps50
  go_wp2_with fail
  refine (unhide D).mono ?_
  rintro e w1 ⟨rfl, hb⟩
  have HB1 : Hid (Below w.heap.size w w1) := (unhide HB).trans (hb.mono (unhide HB).size)
  clear hb D
  go_wp2_with fail
  go_ret
  exact ⟨rfl, unhide HB1⟩
/-- an amount that is not written where it is 0 -/
def unz (a : Int) (d : Nat) : Tx := if a = 0 then [] else txt a d
set_option maxRecDepth 100000 in
set_option maxHeartbeats 2000000 in
theorem unzero_any (a : Int) (d : Nat) (ha : isA a) (hd : d ≤ 6) (w : World) (hP : Kg.Pw w) : Calls Tryz.prog 135 #[.agg #[.int .i64 (d : Int)], .int .i64 a] w (TxtOut w (unz a d)) := by
  have b0 : Below w.heap.size w (w.alloc (.cells #[.int .i64 (d : Int)] 83)) := bal (Below.refl _ _) _
  have D := hide (amount_any a d ha hd (w.alloc (.cells #[.int .i64 (d : Int)] 83)) (hP.below b0))
  have HB := hide b0
  clear hP b0 ha
  by_cases hz : a = 0
  · have hzb : (a == 0) = true := beq_iff_eq.2 hz
    have e : unz a d = [] := if_pos hz
    rw [e]
    clear hz e
    go_enter Tryz.func135, Tryz.ntmps135
    go_wp2_with fail
    go_ret
    exact ⟨rfl, unhide HB⟩
  · have hzb : (a == 0) = false := beq_eq_false_iff_ne.2 hz
    have e : unz a d = txt a d := if_neg hz
    rw [e]
    clear e
    go_enter Tryz.func135, Tryz.ntmps135
    go_wp2_with fail
    refine (unhide D).mono ?_
    rintro e w1 ⟨rfl, hb⟩
    have HB1 : Hid (Below w.heap.size w w1) := (unhide HB).trans (hb.mono (unhide HB).size)
    clear hb D
    go_wp2_with fail
    go_ret
    exact ⟨rfl, unhide HB1⟩
theorem txB_data (s : ByteArray) : txB s.data.toList = s := rfl
attribute [local go_sem ↓] ldM_is
set_option maxRecDepth 100000 in
set_option maxHeartbeats 2000000 in
theorem accountOf_any (x : Cm) (w : World) : Calls Tryz.prog 47 #[cvM x] w (TxtOut w x.acc.data.toList) := by
  have b0 : Below w.heap.size w (w.alloc (obM x)) := bal (Below.refl _ _) _
  have HB := hide b0
  clear b0
  unfold obM at HB
  unfold cvM
  go_enter Tryz.func47, Tryz.ntmps47
  go_wp2_with fail
  go_ret
  exact ⟨rfl, unhide HB⟩
set_option maxRecDepth 100000 in
set_option maxHeartbeats 2000000 in
theorem debitOf_any (x : Cm) (w : World) : Calls Tryz.prog 41 #[cvM x] w fun e w' => e = .returned (.int .i64 x.deb) ∧ Below w.heap.size w w' := by
  have b0 : Below w.heap.size w (w.alloc (obM x)) := bal (Below.refl _ _) _
  have HB := hide b0
  clear b0
  unfold obM at HB
  unfold cvM
  go_enter Tryz.func41, Tryz.ntmps41
  go_wp2_with fail
  go_ret
  exact ⟨rfl, unhide HB⟩
set_option maxRecDepth 100000 in
set_option maxHeartbeats 2000000 in
theorem creditOf_any (x : Cm) (w : World) : Calls Tryz.prog 42 #[cvM x] w fun e w' => e = .returned (.int .i64 x.cre) ∧ Below w.heap.size w w' := by
  have b0 : Below w.heap.size w (w.alloc (obM x)) := bal (Below.refl _ _) _
  have HB := hide b0
  clear b0
  unfold obM at HB
  unfold cvM
  go_enter Tryz.func42, Tryz.ntmps42
  go_wp2_with fail
  go_ret
  exact ⟨rfl, unhide HB⟩
set_option maxRecDepth 100000 in
set_option maxHeartbeats 2000000 in
theorem debit_any (x : Cm) (d : Nat) (ha : isA x.deb) (hd : d ≤ 6) (w : World) (hP : Kg.Pw w) : Calls Tryz.prog 48 #[.agg #[.int .i64 (d : Int)], cvM x] w (TxtOut w (unz x.deb d)) := by
  have b0 : Below w.heap.size w (w.alloc (.cells #[.int .i64 (d : Int)] 83)) := bal (Below.refl _ _) _
  have b1 : Below w.heap.size w ((w.alloc (.cells #[.int .i64 (d : Int)] 83)).alloc (obM x)) := bal b0 _
  have D := hide (unzero_any x.deb d ha hd _ (hP.below b1))
  have HB := hide b1
  clear hP b0 b1 ha
  unfold obM at D HB
  unfold cvM
  go_enter Tryz.func48, Tryz.ntmps48
  go_wp2_with fail
  refine (unhide D).mono ?_
  rintro e w1 ⟨rfl, hb⟩
  have HB1 : Hid (Below w.heap.size w w1) := (unhide HB).trans (hb.mono (unhide HB).size)
  clear hb D
  go_wp2_with fail
  go_ret
  exact ⟨rfl, unhide HB1⟩
set_option maxRecDepth 100000 in
set_option maxHeartbeats 2000000 in
theorem credit_any (x : Cm) (d : Nat) (ha : isA x.cre) (hd : d ≤ 6) (w : World) (hP : Kg.Pw w) : Calls Tryz.prog 49 #[.agg #[.int .i64 (d : Int)], cvM x] w (TxtOut w (unz x.cre d)) := by
  have b0 : Below w.heap.size w (w.alloc (.cells #[.int .i64 (d : Int)] 83)) := bal (Below.refl _ _) _
  have b1 : Below w.heap.size w ((w.alloc (.cells #[.int .i64 (d : Int)] 83)).alloc (obM x)) := bal b0 _
  have D := hide (unzero_any x.cre d ha hd _ (hP.below b1))
  have HB := hide b1
  clear hP b0 b1 ha
  unfold obM at D HB
  unfold cvM
  go_enter Tryz.func49, Tryz.ntmps49
  go_wp2_with fail
  refine (unhide D).mono ?_
  rintro e w1 ⟨rfl, hb⟩
  have HB1 : Hid (Below w.heap.size w w1) := (unhide HB).trans (hb.mono (unhide HB).size)
  clear hb D
  go_wp2_with fail
  go_ret
  exact ⟨rfl, unhide HB1⟩
/-- why a column can't be -/
def faultM (x : Cm) : Int := if nameL x.acc.data.toList = true then (if x.deb < 0 ∨ x.cre < 0 then 10 else 0) else 60
set_option maxRecDepth 100000 in
set_option maxHeartbeats 2000000 in
theorem colFault_any (x : Cm) (hs : x.acc.size < 4611686018427387904) (w : World) : Calls Tryz.prog 39 #[cvM x] w fun e w' => e = .returned (.int .i64 (faultM x)) ∧ Below w.heap.size w w' := by
  obtain ⟨w0, hw0⟩ : ∃ w0, w0 = w.alloc (obM x) := ⟨_, rfl⟩
  have b0 : Below w.heap.size w w0 := by rw [hw0]; exact bal (Below.refl _ _) _
  have D := hide (good_any x.acc hs w0)
  obtain ⟨gb, hgb⟩ : ∃ b, b = nameL x.acc.data.toList := ⟨_, rfl⟩
  have hh : w0.heap[w.heap.size]? = some (obM x) := by rw [hw0]; exact heap_new _ _
  have hlt : w.heap.size < w0.heap.size := by rw [hw0]; simp
  rw [← hgb] at D
  have HH := hide hh; have HB := hide b0; have HGB := hide hgb; have HW := hide hw0; have HLT := hide hlt
  have hw0' : w.alloc (.cells #[.string x.acc, .int .i64 x.deb, .int .i64 x.cre] 31) = w0 := by rw [hw0]; rfl
  have c0 : w0.cell? ⟨w.heap.size, 0, none⟩ = some (.string x.acc) := by rw [cell_at (unhide HH)]; rfl
  clear hh b0 hgb hw0 hs hlt
  unfold cvM
  cases gb with
  | false =>
    have HE : Hid (faultM x = 60) := by show _ = _; unfold faultM; rw [← unhide HGB]; rfl
    go_enter Tryz.func39, Tryz.ntmps39
    go_wp2_with fail
    refine (unhide D).mono ?_
    rintro e w1 ⟨rfl, hb⟩
    have HB1 : Hid (Below w.heap.size w w1) := (unhide HB).trans (hb.mono (unhide HB).size)
    clear hb D
    go_wp2_with fail
    go_ret
    exact ⟨by rw [unhide HE]; rfl, unhide HB1⟩
  | true =>
    go_enter Tryz.func39, Tryz.ntmps39
    go_wp2_with fail
    refine (unhide D).mono ?_
    rintro e w1 ⟨rfl, hb⟩
    have HB1 : Hid (Below w.heap.size w w1) := (unhide HB).trans (hb.mono (unhide HB).size)
    have h1 := (hb.block _ (unhide HLT)).trans (unhide HH)
    have c1 : w1.cell? ⟨w.heap.size, 1, none⟩ = some (.int .i64 x.deb) := by rw [cell_at h1]; rfl
    have c2 : w1.cell? ⟨w.heap.size, 2, none⟩ = some (.int .i64 x.cre) := by rw [cell_at h1]; rfl
    clear hb D h1
    by_cases hd : x.deb < 0
    · have HE : Hid (faultM x = 10) := by show _ = _; unfold faultM; rw [← unhide HGB, if_pos rfl, if_pos (Or.inl hd)]
      go_wp2_with fail
      go_ret
      exact ⟨by rw [unhide HE]; rfl, unhide HB1⟩
    · by_cases hc : x.cre < 0
      · have HE : Hid (faultM x = 10) := by show _ = _; unfold faultM; rw [← unhide HGB, if_pos rfl, if_pos (Or.inr hc)]
        go_wp2_with fail
        go_ret
        exact ⟨by rw [unhide HE]; rfl, unhide HB1⟩
      · have HE : Hid (faultM x = 0) := by show _ = _; unfold faultM; rw [← unhide HGB, if_pos rfl, if_neg (by rintro (h | h); exact hd h; exact hc h)]
        go_wp2_with fail
        go_ret
        exact ⟨by rw [unhide HE]; rfl, unhide HB1⟩
set_option maxHeartbeats 1000000 in
theorem digits_yes (d : Int) (w : World) (h : 0 ≤ d) (h' : d ≤ 6) : Calls Tryz.prog 37 #[.int .i64 d] w fun e w' => e = .returned (.bool true) ∧ w' = w := by
  go_enter Tryz.func37, Tryz.ntmps37
  go_wp2
  go_ret
  exact ⟨by simp, rfl⟩
set_option maxHeartbeats 1000000 in
theorem digits_no (d : Int) (w : World) (h : d < 0 ∨ 6 < d) : Calls Tryz.prog 37 #[.int .i64 d] w fun e w' => e = .returned (.bool false) ∧ w' = w := by
  rcases h with h | h
  all_goals
    go_enter Tryz.func37, Tryz.ntmps37
    go_wp2
    go_ret
    exact ⟨by simp; try omega, rfl⟩
/-- the first that is not 0 -/
def orE (a b : Int) : Int := if a = 0 then b else a
set_option maxRecDepth 100000 in
set_option maxHeartbeats 4000000 in
theorem or_two (a b : Int) (g : Nat) (w : World) (h0 : w.cell? ⟨g, 0, none⟩ = some (.int .i64 a)) (h1 : w.cell? ⟨g, 1, none⟩ = some (.int .i64 b)) : Calls Tryz.prog 43 #[.slice (some ⟨g, 0, none⟩) 2 2] w fun e w' => e = .returned (.int .i64 (orE a b)) ∧ w' = w := by
  go_enter Tryz.func43, Tryz.ntmps43
  go_wp2_with fail
  go_loop [8] (fun iv => ∃ (k : Nat), k ≤ 2 ∧ iv = .int .i64 (k : Int) ∧ Hid (1 ≤ k → a = 0) ∧ Hid (2 ≤ k → b = 0)) (fun iv => (2 - intOf iv).toNat)
  case atStart => exact ⟨0, by omega, rfl, fun h => absurd h (by omega), fun h => absurd h (by omega)⟩
  case round =>
    obtain ⟨k, hk, rfl, ha, hb⟩ := hrel
    have hk3 : k = 0 ∨ k = 1 ∨ k = 2 := by omega
    rcases hk3 with rfl | rfl | rfl
    · by_cases hz : a = 0
      · subst hz
        go_wp2_with fail
        exact ⟨⟨1, by omega, by go_num, fun _ => (by first | rfl | trivial), fun h => absurd h (by omega)⟩, by simp [intOf]⟩
      · have hzb : (a != 0) = true := by rw [bne_iff_ne]; exact hz
        have HE : Hid (orE a b = a) := if_neg hz
        go_wp2_with fail
        go_ret
        exact ⟨by rw [unhide HE]; rfl, rfl⟩
    · have ea := unhide ha (by omega)
      subst ea
      by_cases hz : b = 0
      · subst hz
        go_wp2_with fail
        exact ⟨⟨2, by omega, by go_num, fun _ => (by first | rfl | trivial), fun _ => (by first | rfl | trivial)⟩, by simp [intOf]⟩
      · have hzb : (b != 0) = true := by rw [bne_iff_ne]; exact hz
        go_wp2_with fail
        go_ret
        exact ⟨rfl, rfl⟩
    · have ea := unhide ha (by omega)
      have eb := unhide hb (by omega)
      subst ea eb
      go_wp2_with fail
      go_ret
      exact ⟨rfl, rfl⟩
end Go.Proofs.YtcafhmlpmbkhkaaGreatDoor
/- A trial balance: what it says. -/
namespace Go.Proofs.YtcafhmlpmbkhkaaGreatDoor
open Go Go.Shelf Go.ChangeShapes Go.WideShapes Go.ChangeAt Go.RowKit Go.Maps
set_option linter.unusedVariables false
set_option linter.unusedSimpArgs false
def debL (X : List Cm) : List Int := X.map (·.deb)
def creL (X : List Cm) : List Int := X.map (·.cre)
/-- a line of it -/
def rowT (d : Nat) (x : Cm) : List Tx := [x.acc.data.toList, unz x.deb d, unz x.cre d]
def hdT : List Tx := [[65, 99, 99, 111, 117, 110, 116], [68, 101, 98, 105, 116], [67, 114, 101, 100, 105, 116]]
def sumT (d : Nat) (a b : Int) : List Tx := [[83, 117, 109], txt a d, txt b d]
def rowsT (d : Nat) (X : List Cm) : List (List Tx) := [hdT] ++ X.map (rowT d) ++ [sumT d (sumL (debL X)).1 (sumL (creL X)).1]
def triT (d : Nat) (X : List Cm) : Tx := gridT (rgt [0, 1, 1]) (rowsT d X)
/-- why there is none -/
def errT (dg : Int) (X : List Cm) : Int := if dg < 0 ∨ 6 < dg then 1 else if fstM faultM X ≠ 0 then fstM faultM X else orE (sumL (debL X)).2 (sumL (creL X)).2
def ansT (dg : Int) (X : List Cm) : Tx × Int := if errT dg X = 0 then (triT dg.toNat X, 0) else ([], errT dg X)
def TriOut (w : World) (a : Tx × Int) (e : Ending) (w' : World) : Prop := e = .returned (.tuple #[.string (txB a.1), .int .i64 a.2]) ∧ Below w.heap.size w w'
/-- a column that may come in -/
structure CmOk (x : Cm) : Prop where
  acc : x.acc.size < 4611686018427387904
  deb : -9223372036854775808 ≤ x.deb ∧ x.deb ≤ 9223372036854775807
  cre : -9223372036854775808 ≤ x.cre ∧ x.cre ≤ 9223372036854775807
/-- one without fault -/
structure CmFine (x : Cm) : Prop where
  name : nameL x.acc.data.toList = true
  deb : 0 ≤ x.deb ∧ x.deb ≤ 9223372036854775807
  cre : 0 ≤ x.cre ∧ x.cre ≤ 9223372036854775807
theorem fine_of {x : Cm} (h : CmOk x) (hf : faultM x = 0) : CmFine x := by
  unfold faultM at hf
  by_cases h1 : nameL x.acc.data.toList = true
  · rw [if_pos h1] at hf
    by_cases h2 : x.deb < 0 ∨ x.cre < 0
    · rw [if_pos h2] at hf
      exact absurd hf (by decide)
    · have := h.deb; have := h.cre
      exact ⟨h1, by omega, by omega⟩
  · rw [if_neg h1] at hf
    exact absurd hf (by decide)
theorem fine_all {X : List Cm} (h : ∀ x ∈ X, CmOk x) (hf : fstM faultM X = 0) : ∀ x ∈ X, CmFine x := fun x hx => fine_of (h x hx) (fstM_zero hf x hx)
theorem sumL_fits {l : List Int} (h : (sumL l).2 = 0) : isA (sumL l).1 := by
  unfold sumL sumSpec at h ⊢
  by_cases h1 : anyMin (fun k => l.getD k 0) l.length = true
  · rw [if_pos h1] at h
    exact absurd h (by decide)
  · rw [if_neg h1] at h ⊢
    by_cases h2 : -9223372036854775808 < sumZ (fun k => l.getD k 0) l.length ∧ sumZ (fun k => l.getD k 0) l.length < 9223372036854775808
    · rw [if_pos h2]
      unfold isA
      constructor
      · have := h2.1; show _ ≤ sumZ _ _; omega
      · have := h2.2; show sumZ _ _ ≤ _; omega
    · rw [if_neg h2] at h
      exact absurd h (by decide)
theorem anyMin_no {l : List Int} (hl : ∀ z ∈ l, 0 ≤ z) : ∀ n, anyMin (fun k => l.getD k 0) n = false
  | 0 => rfl
  | n + 1 => by
    rw [anyMin, anyMin_no hl n, Bool.false_or, beq_eq_false_iff_ne]
    intro e
    simp only [List.getD_eq_getElem?_getD] at e
    rcases Nat.lt_or_ge n l.length with h | h
    · rw [List.getElem?_eq_getElem h] at e
      have := hl _ (List.getElem_mem h)
      simp at e
      omega
    · rw [List.getElem?_eq_none h] at e
      simp at e
/-- of amounts from 0 on the sum's error is that it is no amount -/
theorem sumL_err {l : List Int} (hl : ∀ z ∈ l, 0 ≤ z) : (sumL l).2 = 0 ∨ (sumL l).2 = 11 := by
  unfold sumL sumSpec
  rw [anyMin_no hl]
  simp only [Bool.false_eq_true, if_false]
  split
  · exact .inl rfl
  · exact .inr rfl
theorem debL_pos {X : List Cm} (h : ∀ x ∈ X, CmFine x) : ∀ z ∈ debL X, 0 ≤ z := fun z hz => by
  obtain ⟨x, hx, rfl⟩ := List.mem_map.1 hz
  exact (h x hx).deb.1
theorem creL_pos {X : List Cm} (h : ∀ x ∈ X, CmFine x) : ∀ z ∈ creL X, 0 ≤ z := fun z hz => by
  obtain ⟨x, hx, rfl⟩ := List.mem_map.1 hz
  exact (h x hx).cre.1
theorem txt_len (a : Int) (d : Nat) (hd : d ≤ 6) : (txt a d).length ≤ 100 := by
  unfold txt
  rw [List.length_append, List.length_append]
  have h1 := dmin_len 40 (a.natAbs / 10 ^ d) 1
  have h2 := dmin_len 40 (a.natAbs % 10 ^ d) d
  split <;> split <;> simp <;> omega
theorem unz_len (a : Int) (d : Nat) (hd : d ≤ 6) : (unz a d).length ≤ 100 := by
  unfold unz
  split
  · simp
  · exact txt_len a d hd
/-- the rows' cells are short, but for the names -/
theorem rowsT_cell {d : Nat} (hd : d ≤ 6) {X : List Cm} {M : Nat} (hM : 100 ≤ M) (h : ∀ x ∈ X, x.acc.size ≤ M) : ∀ r ∈ rowsT d X, ∀ c ∈ r, c.length ≤ M := by
  intro r hr c hc
  unfold rowsT at hr
  rw [List.mem_append, List.mem_append, List.mem_singleton, List.mem_singleton] at hr
  rcases hr with (rfl | hr) | rfl
  · simp [hdT] at hc
    rcases hc with rfl | rfl | rfl <;> simp <;> omega
  · obtain ⟨x, hx, rfl⟩ := List.mem_map.1 hr
    simp [rowT] at hc
    rcases hc with rfl | rfl | rfl
    · have := h x hx
      simpa using this
    · exact Nat.le_trans (unz_len _ _ hd) hM
    · exact Nat.le_trans (unz_len _ _ hd) hM
  · simp [sumT] at hc
    rcases hc with rfl | rfl | rfl
    · simp; omega
    · exact Nat.le_trans (txt_len _ _ hd) hM
    · exact Nat.le_trans (txt_len _ _ hd) hM
theorem rowsT_len (d : Nat) (X : List Cm) : ∀ r ∈ rowsT d X, r.length ≤ 3 := by
  intro r hr
  unfold rowsT at hr
  rw [List.mem_append, List.mem_append, List.mem_singleton, List.mem_singleton] at hr
  rcases hr with (rfl | hr) | rfl
  · exact Nat.le_refl _
  · obtain ⟨x, hx, rfl⟩ := List.mem_map.1 hr
    exact Nat.le_refl _
  · exact Nat.le_refl _
theorem rowsT_count (d : Nat) (X : List Cm) : (rowsT d X).length = X.length + 2 := by
  simp [rowsT]
end Go.Proofs.YtcafhmlpmbkhkaaGreatDoor
/- Names are short. -/
namespace Go.Proofs.YtcafhmlpmbkhkaaGreatDoor
set_option linter.unusedVariables false
theorem spl_tot (l : List UInt8) : ((spl l).map fun p => p.length + 1).sum = l.length + 1 := by
  induction l with
  | nil => simp [spl]
  | cons c l ih =>
    by_cases hc : c = 58
    · rw [spl, if_pos hc, List.map_cons, List.sum_cons, ih]
      simp
      omega
    · obtain ⟨h, t, e⟩ := spl_ne l
      rw [e] at ih
      rw [spl_cons hc e]
      simp at ih ⊢
      omega
theorem name_short {l : List UInt8} (h : nameL l = true) : l.length ≤ 101 := by
  unfold nameL at h
  simp only [Bool.and_eq_true, decide_eq_true_eq, List.all_eq_true] at h
  have h1 := spl_tot l
  have h2 : ∀ ps : List (List UInt8), (∀ p ∈ ps, p.length ≤ 16) → (ps.map fun p => p.length + 1).sum ≤ ps.length * 17 := fun ps => by
    induction ps with
    | nil => simp
    | cons p ps ih =>
      intro hp
      have a1 := ih (fun q hq => hp q (List.mem_cons_of_mem _ hq))
      have a2 := hp p (List.mem_cons_self ..)
      simp at a1 ⊢
      omega
  have h3 := h2 (spl l) (fun p hp => by
    have := h.2 p hp
    unfold partL at this
    simp only [Bool.and_eq_true, decide_eq_true_eq] at this
    exact this.1.1.2)
  have h4 := spl_len l
  rw [h1] at h3
  omega
end Go.Proofs.YtcafhmlpmbkhkaaGreatDoor
