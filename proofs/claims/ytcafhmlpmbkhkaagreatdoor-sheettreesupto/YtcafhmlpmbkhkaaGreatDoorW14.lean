import Derived.Test.YtcafhmlpmbkhkaaGreatDoorW13
namespace Go.Proofs.YtcafhmlpmbkhkaaGreatDoor
open Go.ChangeShapes Go.WideShapes Go.ChangeAt Go.RowKit
set_option linter.unusedVariables false

theorem rprint_any (a : Int) (d : Nat) (w : World) (h1 : -9223372036854775807 ≤ a) (h2 : a ≤ 9223372036854775807) (hd : d ≤ 6) : Calls Tryz.prog 142 #[.int .i64 a, .int .i64 (d : Int)] w fun e w' => e = .returned (.tuple #[.string ⟨(txt a d).toArray⟩, .int .i64 0]) ∧ Below w.heap.size w w' := by
  have : d = 0 ∨ d = 1 ∨ d = 2 ∨ d = 3 ∨ d = 4 ∨ d = 5 ∨ d = 6 := by omega
  by_cases hn : a < 0
  · rcases this with rfl | rfl | rfl | rfl | rfl | rfl | rfl
    · exact rprint0_n a _ rfl w h1 h2 hn
    · exact rprint1_n a _ rfl w h1 h2 hn
    · exact rprint2_n a _ rfl w h1 h2 hn
    · exact rprint3_n a _ rfl w h1 h2 hn
    · exact rprint4_n a _ rfl w h1 h2 hn
    · exact rprint5_n a _ rfl w h1 h2 hn
    · exact rprint6_n a _ rfl w h1 h2 hn
  · rcases this with rfl | rfl | rfl | rfl | rfl | rfl | rfl
    · exact rprint0_p a _ rfl w h1 h2 hn
    · exact rprint1_p a _ rfl w h1 h2 hn
    · exact rprint2_p a _ rfl w h1 h2 hn
    · exact rprint3_p a _ rfl w h1 h2 hn
    · exact rprint4_p a _ rfl w h1 h2 hn
    · exact rprint5_p a _ rfl w h1 h2 hn
    · exact rprint6_p a _ rfl w h1 h2 hn

set_option maxHeartbeats 1000000 in
theorem mprint_arg (a d : Int) (w : World) (h : d < 0 ∨ 6 < d) : Calls Tryz.prog 136 #[.int .i64 a, .int .i64 d] w fun e w' => e = .returned (.tuple #[.string ⟨#[]⟩, .int .i64 1]) ∧ w' = w := by
  go_enter Tryz.func136, Tryz.ntmps136
  go_wp2_with (go_at_call 196; refine (goodNo _ _ h).mono ?_; rintro e w' ⟨rfl, hw⟩; subst hw)
  go_ret2
  exact ⟨rfl, rfl⟩
set_option maxHeartbeats 1000000 in
theorem mprint_min (d : Int) (w : World) (h : 0 ≤ d) (h' : d ≤ 6) : Calls Tryz.prog 136 #[.int .i64 (-9223372036854775808), .int .i64 d] w fun e w' => e = .returned (.tuple #[.string ⟨#[]⟩, .int .i64 10]) ∧ w' = w := by
  go_enter Tryz.func136, Tryz.ntmps136
  go_wp2_with (first | (go_at_call 196; refine (goodYes _ _ h h').mono ?_; rintro e w' ⟨rfl, hw⟩; subst hw) | (go_at_call 164; refine (chkNo _).mono ?_; rintro e w' ⟨rfl, hw⟩; subst hw))
  go_ret2
  exact ⟨rfl, rfl⟩
theorem fmt_len (u : Nat) (hu64 : u < 18446744073709551616) : (Lib.decDigits u).length ≤ 20 := by
  rw [Lib.decDigits_length]
  by_cases h : 1 ≤ u
  · have := Lib.numDigits_eq u h hu64
    split at this <;> omega
  · have : u = 0 := by omega
    subst this
    rw [← Lib.decDigits_length, dec_small (by decide)]; simp
theorem slice_to (L A B : List UInt8) (z : Int) (d : Nat) (h : L = A ++ B) (hB : B.length = d) (W : World) : (Instr.slice 9 (.string ⟨L.toArray⟩) none (some (.int .i64 ((L.length : Int) - (d : Int)))) none).run Tryz.prog W = .ok (.string ⟨A.toArray⟩) W := by
  subst h
  have hl : (((A ++ B).length : Int) - (d : Int)) = (A.length : Int) := by simp; omega
  have hz : (⟨(A ++ B).toArray⟩ : ByteArray).size = A.length + B.length := by show (A ++ B).toArray.size = _; simp
  rw [hl, run_slice_string_h W 9 _ Tryz.underlying9 .i64 (A.length : Int) (by omega) (by omega)]
  congr 2
  apply ByteArray.ext
  simp
theorem slice_from (L A B : List UInt8) (z : Int) (d : Nat) (h : L = A ++ B) (hB : B.length = d) (W : World) : (Instr.slice 9 (.string ⟨L.toArray⟩) (some (.int .i64 ((L.length : Int) - (d : Int)))) none none).run Tryz.prog W = .ok (.string ⟨B.toArray⟩) W := by
  subst h
  have hl : (((A ++ B).length : Int) - (d : Int)) = (A.length : Int) := by simp; omega
  have hz : (⟨(A ++ B).toArray⟩ : ByteArray).size = A.length + B.length := by show (A ++ B).toArray.size = _; simp
  rw [hl, run_slice_string_l W 9 _ Tryz.underlying9 .i64 (A.length : Int) (by omega) (by omega)]
  congr 2
  apply ByteArray.ext
  simp [hz]
theorem below_gr (w : World) (k : Nat) (os : Array Obj) : Below w.heap.size w (Sort.grow (w.drewN k) os) := by
  refine ⟨rfl, rfl, rfl, ?_, ?_⟩
  · show w.heap.size ≤ (w.heap ++ os).size
    simp
  · intro j hj
    show (w.heap ++ os)[j]? = _
    rw [Array.getElem?_append_left hj]
theorem below_fin (w : World) (k : Nat) (os : Array Obj) (q : Nat) : Below w.heap.size w ((Sort.grow (w.drewN k) os).drewN q) := below_drewN (below_gr w k os) q
theorem rep0_at (z : Int) (c : Nat) (R : List UInt8) (hR : R = List.replicate c 48) (hz : z = c) (hc : c ≤ 7) (w : World) : Calls Tryz.prog 187 #[.string ⟨#[48]⟩, .int .i64 z] w fun e w' => e = .returned (.string ⟨R.toArray⟩) ∧ Below w.heap.size w w' := by
  subst hz
  have h := Tryz.strings_Repeat ⟨#[48]⟩ c w (by omega) (by show 1 * c ≤ _; omega)
  have e : Lib.repeatL [48] c = List.replicate c 48 := by
    have := Lib.repeatL_replicate 48 1 c
    simpa using this
  rw [hR, ← e]
  exact h
theorem fin_n (a : Int) (u d : Nat) (A B : List UInt8) (hu : a.natAbs = u) (h : a < 0) (hd : d ≠ 0) (hA : A = dmin 40 (u / 10 ^ d) 1) (hB : B = dmin 40 (u % 10 ^ d) d) : (⟨#[45]⟩ : ByteArray) ++ (⟨A.toArray⟩ ++ ⟨#[46]⟩ ++ ⟨B.toArray⟩) = ⟨(txt a d).toArray⟩ := by
  rw [← txt_neg a u d hu h hd, hA, hB]
  apply ByteArray.ext
  simp [ByteArray.data_append]
theorem fin_p (a : Int) (u d : Nat) (A B : List UInt8) (hu : a.natAbs = u) (h : ¬ a < 0) (hd : d ≠ 0) (hA : A = dmin 40 (u / 10 ^ d) 1) (hB : B = dmin 40 (u % 10 ^ d) d) : (⟨A.toArray⟩ : ByteArray) ++ ⟨#[46]⟩ ++ ⟨B.toArray⟩ = ⟨(txt a d).toArray⟩ := by
  rw [← txt_pos a u d hu h hd, hA, hB]
theorem fin_n0 (a : Int) (u : Nat) (hu : a.natAbs = u) (h : a < 0) (hub : u ≤ 9223372036854775807) : (⟨#[45]⟩ : ByteArray) ++ ⟨(Lib.decDigits u).toArray⟩ = ⟨(txt a 0).toArray⟩ := by
  rw [← txt_neg0 a u hu h, dmin_one 39 u (Nat.lt_of_le_of_lt hub (by decide))]
theorem fin_p0 (a : Int) (u : Nat) (hu : a.natAbs = u) (h : ¬ a < 0) (hub : u ≤ 9223372036854775807) : (⟨(Lib.decDigits u).toArray⟩ : ByteArray) = ⟨(txt a 0).toArray⟩ := by
  rw [← txt_pos0 a u hu h, dmin_one 39 u (Nat.lt_of_le_of_lt hub (by decide))]
set_option maxRecDepth 100000 in
set_option maxHeartbeats 2000000 in
theorem mprint_zero_n (a : Int) (u : Nat) (hu : Hid (a.natAbs = u)) (w : World) (h1 : -9223372036854775807 ≤ a) (h2 : a ≤ 9223372036854775807) (hn : a < 0)
    (htab : Lib.TabIs Tryz.prog w "internal/strconv.uint64pow10" .u64 Lib.pow10Tab) :
    Calls Tryz.prog 136 #[.int .i64 a, .int .i64 0] w fun e w' => e = .returned (.tuple #[.string ⟨(txt a 0).toArray⟩, .int .i64 0]) ∧ Below w.heap.size w w' := by
  have hub : u ≤ 9223372036854775807 := by have := unhide hu; omega
  have hl20 := fmt_len u (by omega)
  have hl1 := dec_pos u
  have H2 := hide h2
  go_enter Tryz.func136, Tryz.ntmps136
  go_wp2_with (first | (go_at_call 196; refine (goodYes _ _ (by omega) (by omega)).mono ?_; rintro e w' ⟨rfl, hw⟩; subst hw) | (go_at_call 164; refine (chkYes _ _ h1).mono ?_; rintro e w' ⟨rfl, hw⟩; subst hw) | (go_at_call 198; refine (sizeAny _ _ h1 (unhide H2)).mono ?_; rintro e w' ⟨rfl, hw⟩; subst hw) | (go_at_call 197; rw [unhide hu]; refine (fmtu u (by omega) _ htab).mono ?_; rintro e w' ⟨rfl, k, os, rfl⟩))
  go_ret2
  exact ⟨retSI (fin_n0 a u (unhide hu) (by omega) hub) rfl, below_gr _ _ _⟩
set_option maxRecDepth 100000 in
set_option maxHeartbeats 2000000 in
theorem mprint_zero_p (a : Int) (u : Nat) (hu : Hid (a.natAbs = u)) (w : World) (h1 : -9223372036854775807 ≤ a) (h2 : a ≤ 9223372036854775807) (hn : 0 ≤ a)
    (htab : Lib.TabIs Tryz.prog w "internal/strconv.uint64pow10" .u64 Lib.pow10Tab) :
    Calls Tryz.prog 136 #[.int .i64 a, .int .i64 0] w fun e w' => e = .returned (.tuple #[.string ⟨(txt a 0).toArray⟩, .int .i64 0]) ∧ Below w.heap.size w w' := by
  have hub : u ≤ 9223372036854775807 := by have := unhide hu; omega
  have hl20 := fmt_len u (by omega)
  have hl1 := dec_pos u
  have H2 := hide h2
  go_enter Tryz.func136, Tryz.ntmps136
  go_wp2_with (first | (go_at_call 196; refine (goodYes _ _ (by omega) (by omega)).mono ?_; rintro e w' ⟨rfl, hw⟩; subst hw) | (go_at_call 164; refine (chkYes _ _ h1).mono ?_; rintro e w' ⟨rfl, hw⟩; subst hw) | (go_at_call 198; refine (sizeAny _ _ h1 (unhide H2)).mono ?_; rintro e w' ⟨rfl, hw⟩; subst hw) | (go_at_call 197; rw [unhide hu]; refine (fmtu u (by omega) _ htab).mono ?_; rintro e w' ⟨rfl, k, os, rfl⟩))
  go_ret2
  exact ⟨retSI (fin_p0 a u (unhide hu) (by omega) hub) rfl, below_gr _ _ _⟩
set_option maxRecDepth 100000 in
set_option maxHeartbeats 2000000 in
theorem mprint_few_n (a : Int) (u d : Nat) (hu : Hid (a.natAbs = u)) (w : World) (h1 : -9223372036854775807 ≤ a) (h2 : a ≤ 9223372036854775807) (hd : d ≤ 6) (hd0 : 0 < d) (hn : a < 0)
    (htab : Lib.TabIs Tryz.prog w "internal/strconv.uint64pow10" .u64 Lib.pow10Tab) (hlen : d < (Lib.decDigits u).length) (A B : List UInt8) (hP : Hid (Lib.decDigits u = A ++ B)) (hB : Hid (B.length = d)) (hA : Hid (A = dmin 40 (u / 10 ^ d) 1)) (hB2 : Hid (B = dmin 40 (u % 10 ^ d) d)) :
    Calls Tryz.prog 136 #[.int .i64 a, .int .i64 (d : Int)] w fun e w' => e = .returned (.tuple #[.string ⟨(txt a d).toArray⟩, .int .i64 0]) ∧ Below w.heap.size w w' := by
  have hub : u ≤ 9223372036854775807 := by have := unhide hu; omega
  have hl20 := fmt_len u (by omega)
  have hl1 := dec_pos u
  have H2 := hide h2
  have hs1 : ∀ W, (Instr.sliceAt 9 (.string ⟨(Lib.decDigits u).toArray⟩) none (some (.int .i64 (((Lib.decDigits u).length : Int) - (d : Int)))) none).run Tryz.prog W = .ok (.string ⟨A.toArray⟩) W := fun W => by
    rw [run_sliceAt_string W 9 _ _ _ _ Tryz.underlying9]
    exact slice_to _ A B 0 d (unhide hP) (unhide hB) W
  have hs2 : ∀ W, (Instr.sliceAt 9 (.string ⟨(Lib.decDigits u).toArray⟩) (some (.int .i64 (((Lib.decDigits u).length : Int) - (d : Int)))) none none).run Tryz.prog W = .ok (.string ⟨B.toArray⟩) W := fun W => by
    rw [run_sliceAt_string W 9 _ _ _ _ Tryz.underlying9]
    exact slice_from _ A B 0 d (unhide hP) (unhide hB) W
  have hBl : B.length ≤ 6 := by have := unhide hB; omega
  have hAl : A.length ≤ 40 := by have := congrArg List.length (unhide hP); rw [List.length_append] at this; omega
  go_enter Tryz.func136, Tryz.ntmps136
  go_wp2_with (first | (go_at_call 196; refine (goodYes _ _ (by omega) (by omega)).mono ?_; rintro e w' ⟨rfl, hw⟩; subst hw) | (go_at_call 164; refine (chkYes _ _ h1).mono ?_; rintro e w' ⟨rfl, hw⟩; subst hw) | (go_at_call 198; refine (sizeAny _ _ h1 (unhide H2)).mono ?_; rintro e w' ⟨rfl, hw⟩; subst hw) | (go_at_call 197; rw [unhide hu]; refine (fmtu u (by omega) _ htab).mono ?_; rintro e w' ⟨rfl, k, os, rfl⟩))
  go_quiet (fail)
  go_wp2
  go_ret2
  exact ⟨retSI (fin_n a u d A B (unhide hu) (by omega) (by omega) (unhide hA) (unhide hB2)) rfl, below_fin _ _ _ _⟩
set_option maxRecDepth 100000 in
set_option maxHeartbeats 2000000 in
theorem mprint_few_p (a : Int) (u d : Nat) (hu : Hid (a.natAbs = u)) (w : World) (h1 : -9223372036854775807 ≤ a) (h2 : a ≤ 9223372036854775807) (hd : d ≤ 6) (hd0 : 0 < d) (hn : 0 ≤ a)
    (htab : Lib.TabIs Tryz.prog w "internal/strconv.uint64pow10" .u64 Lib.pow10Tab) (hlen : d < (Lib.decDigits u).length) (A B : List UInt8) (hP : Hid (Lib.decDigits u = A ++ B)) (hB : Hid (B.length = d)) (hA : Hid (A = dmin 40 (u / 10 ^ d) 1)) (hB2 : Hid (B = dmin 40 (u % 10 ^ d) d)) :
    Calls Tryz.prog 136 #[.int .i64 a, .int .i64 (d : Int)] w fun e w' => e = .returned (.tuple #[.string ⟨(txt a d).toArray⟩, .int .i64 0]) ∧ Below w.heap.size w w' := by
  have hub : u ≤ 9223372036854775807 := by have := unhide hu; omega
  have hl20 := fmt_len u (by omega)
  have hl1 := dec_pos u
  have H2 := hide h2
  have hs1 : ∀ W, (Instr.sliceAt 9 (.string ⟨(Lib.decDigits u).toArray⟩) none (some (.int .i64 (((Lib.decDigits u).length : Int) - (d : Int)))) none).run Tryz.prog W = .ok (.string ⟨A.toArray⟩) W := fun W => by
    rw [run_sliceAt_string W 9 _ _ _ _ Tryz.underlying9]
    exact slice_to _ A B 0 d (unhide hP) (unhide hB) W
  have hs2 : ∀ W, (Instr.sliceAt 9 (.string ⟨(Lib.decDigits u).toArray⟩) (some (.int .i64 (((Lib.decDigits u).length : Int) - (d : Int)))) none none).run Tryz.prog W = .ok (.string ⟨B.toArray⟩) W := fun W => by
    rw [run_sliceAt_string W 9 _ _ _ _ Tryz.underlying9]
    exact slice_from _ A B 0 d (unhide hP) (unhide hB) W
  have hBl : B.length ≤ 6 := by have := unhide hB; omega
  have hAl : A.length ≤ 40 := by have := congrArg List.length (unhide hP); rw [List.length_append] at this; omega
  go_enter Tryz.func136, Tryz.ntmps136
  go_wp2_with (first | (go_at_call 196; refine (goodYes _ _ (by omega) (by omega)).mono ?_; rintro e w' ⟨rfl, hw⟩; subst hw) | (go_at_call 164; refine (chkYes _ _ h1).mono ?_; rintro e w' ⟨rfl, hw⟩; subst hw) | (go_at_call 198; refine (sizeAny _ _ h1 (unhide H2)).mono ?_; rintro e w' ⟨rfl, hw⟩; subst hw) | (go_at_call 197; rw [unhide hu]; refine (fmtu u (by omega) _ htab).mono ?_; rintro e w' ⟨rfl, k, os, rfl⟩))
  go_quiet (fail)
  go_wp2
  go_ret2
  exact ⟨retSI (fin_p a u d A B (unhide hu) (by omega) (by omega) (unhide hA) (unhide hB2)) rfl, below_fin _ _ _ _⟩
set_option maxRecDepth 100000 in
set_option maxHeartbeats 2000000 in
theorem mprint_pad_n (a : Int) (u d : Nat) (hu : Hid (a.natAbs = u)) (w : World) (h1 : -9223372036854775807 ≤ a) (h2 : a ≤ 9223372036854775807) (hd : d ≤ 6) (hd0 : 0 < d) (hn : a < 0)
    (htab : Lib.TabIs Tryz.prog w "internal/strconv.uint64pow10" .u64 Lib.pow10Tab) (hlen : (Lib.decDigits u).length ≤ d) (R A B : List UInt8) (hR : Hid (R = List.replicate (d + 1 - (Lib.decDigits u).length) 48)) (hP : Hid (R ++ Lib.decDigits u = A ++ B)) (hB : Hid (B.length = d)) (hA : Hid (A = dmin 40 (u / 10 ^ d) 1)) (hB2 : Hid (B = dmin 40 (u % 10 ^ d) d)) :
    Calls Tryz.prog 136 #[.int .i64 a, .int .i64 (d : Int)] w fun e w' => e = .returned (.tuple #[.string ⟨(txt a d).toArray⟩, .int .i64 0]) ∧ Below w.heap.size w w' := by
  have hub : u ≤ 9223372036854775807 := by have := unhide hu; omega
  have hl20 := fmt_len u (by omega)
  have hl1 := dec_pos u
  have H2 := hide h2
  have hs1 : ∀ W, (Instr.sliceAt 9 (.string (⟨R.toArray⟩ ++ ⟨(Lib.decDigits u).toArray⟩)) none (some (.int .i64 ((R.length : Int) + ((Lib.decDigits u).length : Int) - (d : Int)))) none).run Tryz.prog W = .ok (.string ⟨A.toArray⟩) W := fun W => by
    rw [run_sliceAt_string W 9 _ _ _ _ Tryz.underlying9, bapp, show (R.length : Int) + ((Lib.decDigits u).length : Int) = (((R ++ Lib.decDigits u).length : Nat) : Int) by simp]
    exact slice_to _ A B 0 d (unhide hP) (unhide hB) W
  have hs2 : ∀ W, (Instr.sliceAt 9 (.string (⟨R.toArray⟩ ++ ⟨(Lib.decDigits u).toArray⟩)) (some (.int .i64 ((R.length : Int) + ((Lib.decDigits u).length : Int) - (d : Int)))) none none).run Tryz.prog W = .ok (.string ⟨B.toArray⟩) W := fun W => by
    rw [run_sliceAt_string W 9 _ _ _ _ Tryz.underlying9, bapp, show (R.length : Int) + ((Lib.decDigits u).length : Int) = (((R ++ Lib.decDigits u).length : Nat) : Int) by simp]
    exact slice_from _ A B 0 d (unhide hP) (unhide hB) W
  have hBl : B.length ≤ 6 := by have := unhide hB; omega
  have hRl : R.length = d + 1 - (Lib.decDigits u).length := by rw [unhide hR]; simp
  have hAl : A.length ≤ 40 := by have := congrArg List.length (unhide hP); rw [List.length_append, List.length_append] at this; omega
  have hRl7 : R.length ≤ 7 := by omega
  have HRl := hide hRl
  clear hRl
  go_enter Tryz.func136, Tryz.ntmps136
  go_wp2_with (first | (go_at_call 196; refine (goodYes _ _ (by omega) (by omega)).mono ?_; rintro e w' ⟨rfl, hw⟩; subst hw) | (go_at_call 164; refine (chkYes _ _ h1).mono ?_; rintro e w' ⟨rfl, hw⟩; subst hw) | (go_at_call 198; refine (sizeAny _ _ h1 (unhide H2)).mono ?_; rintro e w' ⟨rfl, hw⟩; subst hw) | (go_at_call 197; rw [unhide hu]; refine (fmtu u (by omega) _ htab).mono ?_; rintro e w' ⟨rfl, k, os, rfl⟩) | (go_at_call 187; refine (rep0_at _ (d + 1 - (Lib.decDigits u).length) R (unhide hR) (by omega) (by omega) _).mono ?_; rintro e w2 ⟨rfl, hb2⟩))
  go_quiet (fail)
  go_wp2
  go_ret2
  exact ⟨retSI (fin_n a u d A B (unhide hu) (by omega) (by omega) (unhide hA) (unhide hB2)) rfl, below_drewN ((below_gr _ _ _).trans (hb2.mono (below_gr _ _ _).size)) _⟩
set_option maxRecDepth 100000 in
set_option maxHeartbeats 2000000 in
theorem mprint_pad_p (a : Int) (u d : Nat) (hu : Hid (a.natAbs = u)) (w : World) (h1 : -9223372036854775807 ≤ a) (h2 : a ≤ 9223372036854775807) (hd : d ≤ 6) (hd0 : 0 < d) (hn : 0 ≤ a)
    (htab : Lib.TabIs Tryz.prog w "internal/strconv.uint64pow10" .u64 Lib.pow10Tab) (hlen : (Lib.decDigits u).length ≤ d) (R A B : List UInt8) (hR : Hid (R = List.replicate (d + 1 - (Lib.decDigits u).length) 48)) (hP : Hid (R ++ Lib.decDigits u = A ++ B)) (hB : Hid (B.length = d)) (hA : Hid (A = dmin 40 (u / 10 ^ d) 1)) (hB2 : Hid (B = dmin 40 (u % 10 ^ d) d)) :
    Calls Tryz.prog 136 #[.int .i64 a, .int .i64 (d : Int)] w fun e w' => e = .returned (.tuple #[.string ⟨(txt a d).toArray⟩, .int .i64 0]) ∧ Below w.heap.size w w' := by
  have hub : u ≤ 9223372036854775807 := by have := unhide hu; omega
  have hl20 := fmt_len u (by omega)
  have hl1 := dec_pos u
  have H2 := hide h2
  have hs1 : ∀ W, (Instr.sliceAt 9 (.string (⟨R.toArray⟩ ++ ⟨(Lib.decDigits u).toArray⟩)) none (some (.int .i64 ((R.length : Int) + ((Lib.decDigits u).length : Int) - (d : Int)))) none).run Tryz.prog W = .ok (.string ⟨A.toArray⟩) W := fun W => by
    rw [run_sliceAt_string W 9 _ _ _ _ Tryz.underlying9, bapp, show (R.length : Int) + ((Lib.decDigits u).length : Int) = (((R ++ Lib.decDigits u).length : Nat) : Int) by simp]
    exact slice_to _ A B 0 d (unhide hP) (unhide hB) W
  have hs2 : ∀ W, (Instr.sliceAt 9 (.string (⟨R.toArray⟩ ++ ⟨(Lib.decDigits u).toArray⟩)) (some (.int .i64 ((R.length : Int) + ((Lib.decDigits u).length : Int) - (d : Int)))) none none).run Tryz.prog W = .ok (.string ⟨B.toArray⟩) W := fun W => by
    rw [run_sliceAt_string W 9 _ _ _ _ Tryz.underlying9, bapp, show (R.length : Int) + ((Lib.decDigits u).length : Int) = (((R ++ Lib.decDigits u).length : Nat) : Int) by simp]
    exact slice_from _ A B 0 d (unhide hP) (unhide hB) W
  have hBl : B.length ≤ 6 := by have := unhide hB; omega
  have hRl : R.length = d + 1 - (Lib.decDigits u).length := by rw [unhide hR]; simp
  have hAl : A.length ≤ 40 := by have := congrArg List.length (unhide hP); rw [List.length_append, List.length_append] at this; omega
  have hRl7 : R.length ≤ 7 := by omega
  have HRl := hide hRl
  clear hRl
  go_enter Tryz.func136, Tryz.ntmps136
  go_wp2_with (first | (go_at_call 196; refine (goodYes _ _ (by omega) (by omega)).mono ?_; rintro e w' ⟨rfl, hw⟩; subst hw) | (go_at_call 164; refine (chkYes _ _ h1).mono ?_; rintro e w' ⟨rfl, hw⟩; subst hw) | (go_at_call 198; refine (sizeAny _ _ h1 (unhide H2)).mono ?_; rintro e w' ⟨rfl, hw⟩; subst hw) | (go_at_call 197; rw [unhide hu]; refine (fmtu u (by omega) _ htab).mono ?_; rintro e w' ⟨rfl, k, os, rfl⟩) | (go_at_call 187; refine (rep0_at _ (d + 1 - (Lib.decDigits u).length) R (unhide hR) (by omega) (by omega) _).mono ?_; rintro e w2 ⟨rfl, hb2⟩))
  go_quiet (fail)
  go_wp2
  go_ret2
  exact ⟨retSI (fin_p a u d A B (unhide hu) (by omega) (by omega) (unhide hA) (unhide hB2)) rfl, below_drewN ((below_gr _ _ _).trans (hb2.mono (below_gr _ _ _).size)) _⟩
theorem mprint_any (a : Int) (d : Nat) (w : World) (h1 : -9223372036854775807 ≤ a) (h2 : a ≤ 9223372036854775807) (hd : d ≤ 6) (htab : Lib.TabIs Tryz.prog w "internal/strconv.uint64pow10" .u64 Lib.pow10Tab) :
    Calls Tryz.prog 136 #[.int .i64 a, .int .i64 (d : Int)] w fun e w' => e = .returned (.tuple #[.string ⟨(txt a d).toArray⟩, .int .i64 0]) ∧ Below w.heap.size w w' := by
  obtain ⟨u, hu⟩ : ∃ u, a.natAbs = u := ⟨_, rfl⟩
  by_cases hd0 : d = 0
  · subst hd0
    by_cases hn : a < 0
    · exact mprint_zero_n a u hu w h1 h2 hn htab
    · exact mprint_zero_p a u hu w h1 h2 (by omega) htab
  · have hub : u < 10 ^ 30 := by omega
    have hsp := split_digits d 40 u (by omega) hub
    by_cases hlen : d < (Lib.decDigits u).length
    · have hP : Lib.decDigits u = dmin 40 (u / 10 ^ d) 1 ++ dmin 40 (u % 10 ^ d) d := by
        rw [hsp.1, pad, show d + 1 - (Lib.decDigits u).length = 0 by omega]
        rfl
      by_cases hn : a < 0
      · exact mprint_few_n a u d hu w h1 h2 hd (by omega) hn htab hlen _ _ hP hsp.2 rfl rfl
      · exact mprint_few_p a u d hu w h1 h2 hd (by omega) (by omega) htab hlen _ _ hP hsp.2 rfl rfl
    · by_cases hn : a < 0
      · exact mprint_pad_n a u d hu w h1 h2 hd (by omega) hn htab (by omega) _ _ _ rfl hsp.1.symm hsp.2 rfl rfl
      · exact mprint_pad_p a u d hu w h1 h2 hd (by omega) (by omega) htab (by omega) _ _ _ rfl hsp.1.symm hsp.2 rfl rfl
end Go.Proofs.YtcafhmlpmbkhkaaGreatDoor
