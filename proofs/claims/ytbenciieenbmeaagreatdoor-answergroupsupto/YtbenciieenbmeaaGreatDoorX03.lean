import Derived.Test.YtbenciieenbmeaaGreatDoorX02
/- the document's field (19), case by case. -/
namespace Go.Proofs.YtbenciieenbmeaaGreatDoor
open Go Go.Shelf Go.ChangeShapes Go.WideShapes Go.ChangeAt Go.RowKit Go.Maps
set_option linter.unusedVariables false
set_option maxRecDepth 100000
set_option maxHeartbeats 2000000
theorem rf1yyy {i0 i1 i3 amt' : Int} {s4 acc s7 s8 : ByteArray} {y m d k : Nat} (ha : amt amt' = true) (hd : Dat y m d k) (hn : amt i0 = true) (w : World) : Calls Tryz.prog 19 #[.int .i64 1, .agg #[.int .i64 i0, .int .i64 i1, .int .i64 k, .int .i64 i3, .string s4, .string acc, .int .i64 amt', .string s7, .string s8]] w fun e w' => e = .returned (wV i0 ⟨#[]⟩ false) ∧ Below w.heap.size w w' := by
  have c1 := hide (rnum_yes ha)
  have c2 := hide (fun w => rto_ok y m d k w hd)
  have hy : (y : Int) ≤ 9999 := by have := hd.y2; omega
  have hy0 : (0 : Int) ≤ (y : Int) := by omega
  have hm : (m : Int) ≤ 12 := by have := hd.m2; omega
  have hm0 : (0 : Int) ≤ (m : Int) := by omega
  have c3 := hide (rnum_yes hn)
  clear ha hd hn
  go_enter Tryz.func19, Tryz.ntmps19
  go_upto_region 5 with (first | (go_at_call 24; refine (unhide c1 _).mono ?_; rintro e w' ⟨rfl, hw⟩; subst hw) | (go_at_call 25; refine (unhide c2 _).mono ?_; rintro e w' ⟨rfl, hw⟩; subst hw))
  clear c1 c2
  go_wp2_with (go_at_call 24; refine (unhide c3 _).mono ?_; rintro e w' ⟨rfl, hw⟩; subst hw)
  exact bodyPost_ret (v := wV i0 ⟨#[]⟩ false) (by simp [results, Tryz.results19, go_sem]) rfl ⟨rfl, by repeat (first | exact Below.refl _ _ | refine Below.alloc ?_ (by simp <;> omega) _)⟩
theorem rf1yyn {i0 i1 i3 amt' : Int} {s4 acc s7 s8 : ByteArray} {y m d k : Nat} (ha : amt amt' = true) (hd : Dat y m d k) (hn : amt i0 = false) (w : World) : Calls Tryz.prog 19 #[.int .i64 1, .agg #[.int .i64 i0, .int .i64 i1, .int .i64 k, .int .i64 i3, .string s4, .string acc, .int .i64 amt', .string s7, .string s8]] w fun e w' => e = .returned (wV 0 ⟨#[]⟩ true) ∧ Below w.heap.size w w' := by
  have c1 := hide (rnum_yes ha)
  have c2 := hide (fun w => rto_ok y m d k w hd)
  have hy : (y : Int) ≤ 9999 := by have := hd.y2; omega
  have hy0 : (0 : Int) ≤ (y : Int) := by omega
  have hm : (m : Int) ≤ 12 := by have := hd.m2; omega
  have hm0 : (0 : Int) ≤ (m : Int) := by omega
  have c3 := hide (rnum_no hn)
  clear ha hd hn
  go_enter Tryz.func19, Tryz.ntmps19
  go_upto_region 5 with (first | (go_at_call 24; refine (unhide c1 _).mono ?_; rintro e w' ⟨rfl, hw⟩; subst hw) | (go_at_call 25; refine (unhide c2 _).mono ?_; rintro e w' ⟨rfl, hw⟩; subst hw))
  clear c1 c2
  go_wp2_with (go_at_call 24; refine (unhide c3 _).mono ?_; rintro e w' ⟨rfl, hw⟩; subst hw)
  exact bodyPost_ret (v := wV 0 ⟨#[]⟩ true) (by simp [results, Tryz.results19, go_sem]) rfl ⟨rfl, by repeat (first | exact Below.refl _ _ | refine Below.alloc ?_ (by simp <;> omega) _)⟩
theorem rf1yny {i0 i1 i3 amt' : Int} {s4 acc s7 s8 : ByteArray} {i2 : Int} (ha : amt amt' = true) (hd : i2 < 1 ∨ 1 ≤ i2 ∧ 3652059 < i2) (hn : amt i0 = true) (w : World) : Calls Tryz.prog 19 #[.int .i64 1, .agg #[.int .i64 i0, .int .i64 i1, .int .i64 i2, .int .i64 i3, .string s4, .string acc, .int .i64 amt', .string s7, .string s8]] w fun e w' => e = .returned (wV i0 ⟨#[]⟩ false) ∧ Below w.heap.size w w' := by
  have c1 := hide (rnum_yes ha)
  have c2 := hide (fun w => rto_bad i2 w hd)
  have c3 := hide (rnum_yes hn)
  clear ha hd hn
  go_enter Tryz.func19, Tryz.ntmps19
  go_upto_region 5 with (first | (go_at_call 24; refine (unhide c1 _).mono ?_; rintro e w' ⟨rfl, hw⟩; subst hw) | (go_at_call 25; refine (unhide c2 _).mono ?_; rintro e w' ⟨rfl, hw⟩; subst hw))
  clear c1 c2
  go_wp2_with (go_at_call 24; refine (unhide c3 _).mono ?_; rintro e w' ⟨rfl, hw⟩; subst hw)
  exact bodyPost_ret (v := wV i0 ⟨#[]⟩ false) (by simp [results, Tryz.results19, go_sem]) rfl ⟨rfl, by repeat (first | exact Below.refl _ _ | refine Below.alloc ?_ (by simp <;> omega) _)⟩
theorem rf1ynn {i0 i1 i3 amt' : Int} {s4 acc s7 s8 : ByteArray} {i2 : Int} (ha : amt amt' = true) (hd : i2 < 1 ∨ 1 ≤ i2 ∧ 3652059 < i2) (hn : amt i0 = false) (w : World) : Calls Tryz.prog 19 #[.int .i64 1, .agg #[.int .i64 i0, .int .i64 i1, .int .i64 i2, .int .i64 i3, .string s4, .string acc, .int .i64 amt', .string s7, .string s8]] w fun e w' => e = .returned (wV 0 ⟨#[]⟩ true) ∧ Below w.heap.size w w' := by
  have c1 := hide (rnum_yes ha)
  have c2 := hide (fun w => rto_bad i2 w hd)
  have c3 := hide (rnum_no hn)
  clear ha hd hn
  go_enter Tryz.func19, Tryz.ntmps19
  go_upto_region 5 with (first | (go_at_call 24; refine (unhide c1 _).mono ?_; rintro e w' ⟨rfl, hw⟩; subst hw) | (go_at_call 25; refine (unhide c2 _).mono ?_; rintro e w' ⟨rfl, hw⟩; subst hw))
  clear c1 c2
  go_wp2_with (go_at_call 24; refine (unhide c3 _).mono ?_; rintro e w' ⟨rfl, hw⟩; subst hw)
  exact bodyPost_ret (v := wV 0 ⟨#[]⟩ true) (by simp [results, Tryz.results19, go_sem]) rfl ⟨rfl, by repeat (first | exact Below.refl _ _ | refine Below.alloc ?_ (by simp <;> omega) _)⟩
theorem rf1nyy {i0 i1 i3 amt' : Int} {s4 acc s7 s8 : ByteArray} {y m d k : Nat} (ha : amt amt' = false) (hd : Dat y m d k) (hn : amt i0 = true) (w : World) : Calls Tryz.prog 19 #[.int .i64 1, .agg #[.int .i64 i0, .int .i64 i1, .int .i64 k, .int .i64 i3, .string s4, .string acc, .int .i64 amt', .string s7, .string s8]] w fun e w' => e = .returned (wV i0 ⟨#[]⟩ false) ∧ Below w.heap.size w w' := by
  have c1 := hide (rnum_no ha)
  have c2 := hide (fun w => rto_ok y m d k w hd)
  have hy : (y : Int) ≤ 9999 := by have := hd.y2; omega
  have hy0 : (0 : Int) ≤ (y : Int) := by omega
  have hm : (m : Int) ≤ 12 := by have := hd.m2; omega
  have hm0 : (0 : Int) ≤ (m : Int) := by omega
  have c3 := hide (rnum_yes hn)
  clear ha hd hn
  go_enter Tryz.func19, Tryz.ntmps19
  go_upto_region 5 with (first | (go_at_call 24; refine (unhide c1 _).mono ?_; rintro e w' ⟨rfl, hw⟩; subst hw) | (go_at_call 25; refine (unhide c2 _).mono ?_; rintro e w' ⟨rfl, hw⟩; subst hw))
  clear c1 c2
  go_wp2_with (go_at_call 24; refine (unhide c3 _).mono ?_; rintro e w' ⟨rfl, hw⟩; subst hw)
  exact bodyPost_ret (v := wV i0 ⟨#[]⟩ false) (by simp [results, Tryz.results19, go_sem]) rfl ⟨rfl, by repeat (first | exact Below.refl _ _ | refine Below.alloc ?_ (by simp <;> omega) _)⟩
theorem rf1nyn {i0 i1 i3 amt' : Int} {s4 acc s7 s8 : ByteArray} {y m d k : Nat} (ha : amt amt' = false) (hd : Dat y m d k) (hn : amt i0 = false) (w : World) : Calls Tryz.prog 19 #[.int .i64 1, .agg #[.int .i64 i0, .int .i64 i1, .int .i64 k, .int .i64 i3, .string s4, .string acc, .int .i64 amt', .string s7, .string s8]] w fun e w' => e = .returned (wV 0 ⟨#[]⟩ true) ∧ Below w.heap.size w w' := by
  have c1 := hide (rnum_no ha)
  have c2 := hide (fun w => rto_ok y m d k w hd)
  have hy : (y : Int) ≤ 9999 := by have := hd.y2; omega
  have hy0 : (0 : Int) ≤ (y : Int) := by omega
  have hm : (m : Int) ≤ 12 := by have := hd.m2; omega
  have hm0 : (0 : Int) ≤ (m : Int) := by omega
  have c3 := hide (rnum_no hn)
  clear ha hd hn
  go_enter Tryz.func19, Tryz.ntmps19
  go_upto_region 5 with (first | (go_at_call 24; refine (unhide c1 _).mono ?_; rintro e w' ⟨rfl, hw⟩; subst hw) | (go_at_call 25; refine (unhide c2 _).mono ?_; rintro e w' ⟨rfl, hw⟩; subst hw))
  clear c1 c2
  go_wp2_with (go_at_call 24; refine (unhide c3 _).mono ?_; rintro e w' ⟨rfl, hw⟩; subst hw)
  exact bodyPost_ret (v := wV 0 ⟨#[]⟩ true) (by simp [results, Tryz.results19, go_sem]) rfl ⟨rfl, by repeat (first | exact Below.refl _ _ | refine Below.alloc ?_ (by simp <;> omega) _)⟩
theorem rf1nny {i0 i1 i3 amt' : Int} {s4 acc s7 s8 : ByteArray} {i2 : Int} (ha : amt amt' = false) (hd : i2 < 1 ∨ 1 ≤ i2 ∧ 3652059 < i2) (hn : amt i0 = true) (w : World) : Calls Tryz.prog 19 #[.int .i64 1, .agg #[.int .i64 i0, .int .i64 i1, .int .i64 i2, .int .i64 i3, .string s4, .string acc, .int .i64 amt', .string s7, .string s8]] w fun e w' => e = .returned (wV i0 ⟨#[]⟩ false) ∧ Below w.heap.size w w' := by
  have c1 := hide (rnum_no ha)
  have c2 := hide (fun w => rto_bad i2 w hd)
  have c3 := hide (rnum_yes hn)
  clear ha hd hn
  go_enter Tryz.func19, Tryz.ntmps19
  go_upto_region 5 with (first | (go_at_call 24; refine (unhide c1 _).mono ?_; rintro e w' ⟨rfl, hw⟩; subst hw) | (go_at_call 25; refine (unhide c2 _).mono ?_; rintro e w' ⟨rfl, hw⟩; subst hw))
  clear c1 c2
  go_wp2_with (go_at_call 24; refine (unhide c3 _).mono ?_; rintro e w' ⟨rfl, hw⟩; subst hw)
  exact bodyPost_ret (v := wV i0 ⟨#[]⟩ false) (by simp [results, Tryz.results19, go_sem]) rfl ⟨rfl, by repeat (first | exact Below.refl _ _ | refine Below.alloc ?_ (by simp <;> omega) _)⟩
theorem rf1nnn {i0 i1 i3 amt' : Int} {s4 acc s7 s8 : ByteArray} {i2 : Int} (ha : amt amt' = false) (hd : i2 < 1 ∨ 1 ≤ i2 ∧ 3652059 < i2) (hn : amt i0 = false) (w : World) : Calls Tryz.prog 19 #[.int .i64 1, .agg #[.int .i64 i0, .int .i64 i1, .int .i64 i2, .int .i64 i3, .string s4, .string acc, .int .i64 amt', .string s7, .string s8]] w fun e w' => e = .returned (wV 0 ⟨#[]⟩ true) ∧ Below w.heap.size w w' := by
  have c1 := hide (rnum_no ha)
  have c2 := hide (fun w => rto_bad i2 w hd)
  have c3 := hide (rnum_no hn)
  clear ha hd hn
  go_enter Tryz.func19, Tryz.ntmps19
  go_upto_region 5 with (first | (go_at_call 24; refine (unhide c1 _).mono ?_; rintro e w' ⟨rfl, hw⟩; subst hw) | (go_at_call 25; refine (unhide c2 _).mono ?_; rintro e w' ⟨rfl, hw⟩; subst hw))
  clear c1 c2
  go_wp2_with (go_at_call 24; refine (unhide c3 _).mono ?_; rintro e w' ⟨rfl, hw⟩; subst hw)
  exact bodyPost_ret (v := wV 0 ⟨#[]⟩ true) (by simp [results, Tryz.results19, go_sem]) rfl ⟨rfl, by repeat (first | exact Below.refl _ _ | refine Below.alloc ?_ (by simp <;> omega) _)⟩
theorem rf2yyy {i0 i1 i3 amt' : Int} {s4 acc s7 s8 : ByteArray} {y m d k : Nat} (ha : amt amt' = true) (hd : Dat y m d k) (hn : amt i1 = true) (w : World) : Calls Tryz.prog 19 #[.int .i64 2, .agg #[.int .i64 i0, .int .i64 i1, .int .i64 k, .int .i64 i3, .string s4, .string acc, .int .i64 amt', .string s7, .string s8]] w fun e w' => e = .returned (wV i1 ⟨#[]⟩ false) ∧ Below w.heap.size w w' := by
  have c1 := hide (rnum_yes ha)
  have c2 := hide (fun w => rto_ok y m d k w hd)
  have hy : (y : Int) ≤ 9999 := by have := hd.y2; omega
  have hy0 : (0 : Int) ≤ (y : Int) := by omega
  have hm : (m : Int) ≤ 12 := by have := hd.m2; omega
  have hm0 : (0 : Int) ≤ (m : Int) := by omega
  have c3 := hide (rnum_yes hn)
  clear ha hd hn
  go_enter Tryz.func19, Tryz.ntmps19
  go_upto_region 7 with (first | (go_at_call 24; refine (unhide c1 _).mono ?_; rintro e w' ⟨rfl, hw⟩; subst hw) | (go_at_call 25; refine (unhide c2 _).mono ?_; rintro e w' ⟨rfl, hw⟩; subst hw))
  clear c1 c2
  go_wp2_with (go_at_call 24; refine (unhide c3 _).mono ?_; rintro e w' ⟨rfl, hw⟩; subst hw)
  exact bodyPost_ret (v := wV i1 ⟨#[]⟩ false) (by simp [results, Tryz.results19, go_sem]) rfl ⟨rfl, by repeat (first | exact Below.refl _ _ | refine Below.alloc ?_ (by simp <;> omega) _)⟩
theorem rf2yyn {i0 i1 i3 amt' : Int} {s4 acc s7 s8 : ByteArray} {y m d k : Nat} (ha : amt amt' = true) (hd : Dat y m d k) (hn : amt i1 = false) (w : World) : Calls Tryz.prog 19 #[.int .i64 2, .agg #[.int .i64 i0, .int .i64 i1, .int .i64 k, .int .i64 i3, .string s4, .string acc, .int .i64 amt', .string s7, .string s8]] w fun e w' => e = .returned (wV 0 ⟨#[]⟩ true) ∧ Below w.heap.size w w' := by
  have c1 := hide (rnum_yes ha)
  have c2 := hide (fun w => rto_ok y m d k w hd)
  have hy : (y : Int) ≤ 9999 := by have := hd.y2; omega
  have hy0 : (0 : Int) ≤ (y : Int) := by omega
  have hm : (m : Int) ≤ 12 := by have := hd.m2; omega
  have hm0 : (0 : Int) ≤ (m : Int) := by omega
  have c3 := hide (rnum_no hn)
  clear ha hd hn
  go_enter Tryz.func19, Tryz.ntmps19
  go_upto_region 7 with (first | (go_at_call 24; refine (unhide c1 _).mono ?_; rintro e w' ⟨rfl, hw⟩; subst hw) | (go_at_call 25; refine (unhide c2 _).mono ?_; rintro e w' ⟨rfl, hw⟩; subst hw))
  clear c1 c2
  go_wp2_with (go_at_call 24; refine (unhide c3 _).mono ?_; rintro e w' ⟨rfl, hw⟩; subst hw)
  exact bodyPost_ret (v := wV 0 ⟨#[]⟩ true) (by simp [results, Tryz.results19, go_sem]) rfl ⟨rfl, by repeat (first | exact Below.refl _ _ | refine Below.alloc ?_ (by simp <;> omega) _)⟩
theorem rf2yny {i0 i1 i3 amt' : Int} {s4 acc s7 s8 : ByteArray} {i2 : Int} (ha : amt amt' = true) (hd : i2 < 1 ∨ 1 ≤ i2 ∧ 3652059 < i2) (hn : amt i1 = true) (w : World) : Calls Tryz.prog 19 #[.int .i64 2, .agg #[.int .i64 i0, .int .i64 i1, .int .i64 i2, .int .i64 i3, .string s4, .string acc, .int .i64 amt', .string s7, .string s8]] w fun e w' => e = .returned (wV i1 ⟨#[]⟩ false) ∧ Below w.heap.size w w' := by
  have c1 := hide (rnum_yes ha)
  have c2 := hide (fun w => rto_bad i2 w hd)
  have c3 := hide (rnum_yes hn)
  clear ha hd hn
  go_enter Tryz.func19, Tryz.ntmps19
  go_upto_region 7 with (first | (go_at_call 24; refine (unhide c1 _).mono ?_; rintro e w' ⟨rfl, hw⟩; subst hw) | (go_at_call 25; refine (unhide c2 _).mono ?_; rintro e w' ⟨rfl, hw⟩; subst hw))
  clear c1 c2
  go_wp2_with (go_at_call 24; refine (unhide c3 _).mono ?_; rintro e w' ⟨rfl, hw⟩; subst hw)
  exact bodyPost_ret (v := wV i1 ⟨#[]⟩ false) (by simp [results, Tryz.results19, go_sem]) rfl ⟨rfl, by repeat (first | exact Below.refl _ _ | refine Below.alloc ?_ (by simp <;> omega) _)⟩
theorem rf2ynn {i0 i1 i3 amt' : Int} {s4 acc s7 s8 : ByteArray} {i2 : Int} (ha : amt amt' = true) (hd : i2 < 1 ∨ 1 ≤ i2 ∧ 3652059 < i2) (hn : amt i1 = false) (w : World) : Calls Tryz.prog 19 #[.int .i64 2, .agg #[.int .i64 i0, .int .i64 i1, .int .i64 i2, .int .i64 i3, .string s4, .string acc, .int .i64 amt', .string s7, .string s8]] w fun e w' => e = .returned (wV 0 ⟨#[]⟩ true) ∧ Below w.heap.size w w' := by
  have c1 := hide (rnum_yes ha)
  have c2 := hide (fun w => rto_bad i2 w hd)
  have c3 := hide (rnum_no hn)
  clear ha hd hn
  go_enter Tryz.func19, Tryz.ntmps19
  go_upto_region 7 with (first | (go_at_call 24; refine (unhide c1 _).mono ?_; rintro e w' ⟨rfl, hw⟩; subst hw) | (go_at_call 25; refine (unhide c2 _).mono ?_; rintro e w' ⟨rfl, hw⟩; subst hw))
  clear c1 c2
  go_wp2_with (go_at_call 24; refine (unhide c3 _).mono ?_; rintro e w' ⟨rfl, hw⟩; subst hw)
  exact bodyPost_ret (v := wV 0 ⟨#[]⟩ true) (by simp [results, Tryz.results19, go_sem]) rfl ⟨rfl, by repeat (first | exact Below.refl _ _ | refine Below.alloc ?_ (by simp <;> omega) _)⟩
theorem rf2nyy {i0 i1 i3 amt' : Int} {s4 acc s7 s8 : ByteArray} {y m d k : Nat} (ha : amt amt' = false) (hd : Dat y m d k) (hn : amt i1 = true) (w : World) : Calls Tryz.prog 19 #[.int .i64 2, .agg #[.int .i64 i0, .int .i64 i1, .int .i64 k, .int .i64 i3, .string s4, .string acc, .int .i64 amt', .string s7, .string s8]] w fun e w' => e = .returned (wV i1 ⟨#[]⟩ false) ∧ Below w.heap.size w w' := by
  have c1 := hide (rnum_no ha)
  have c2 := hide (fun w => rto_ok y m d k w hd)
  have hy : (y : Int) ≤ 9999 := by have := hd.y2; omega
  have hy0 : (0 : Int) ≤ (y : Int) := by omega
  have hm : (m : Int) ≤ 12 := by have := hd.m2; omega
  have hm0 : (0 : Int) ≤ (m : Int) := by omega
  have c3 := hide (rnum_yes hn)
  clear ha hd hn
  go_enter Tryz.func19, Tryz.ntmps19
  go_upto_region 7 with (first | (go_at_call 24; refine (unhide c1 _).mono ?_; rintro e w' ⟨rfl, hw⟩; subst hw) | (go_at_call 25; refine (unhide c2 _).mono ?_; rintro e w' ⟨rfl, hw⟩; subst hw))
  clear c1 c2
  go_wp2_with (go_at_call 24; refine (unhide c3 _).mono ?_; rintro e w' ⟨rfl, hw⟩; subst hw)
  exact bodyPost_ret (v := wV i1 ⟨#[]⟩ false) (by simp [results, Tryz.results19, go_sem]) rfl ⟨rfl, by repeat (first | exact Below.refl _ _ | refine Below.alloc ?_ (by simp <;> omega) _)⟩
theorem rf2nyn {i0 i1 i3 amt' : Int} {s4 acc s7 s8 : ByteArray} {y m d k : Nat} (ha : amt amt' = false) (hd : Dat y m d k) (hn : amt i1 = false) (w : World) : Calls Tryz.prog 19 #[.int .i64 2, .agg #[.int .i64 i0, .int .i64 i1, .int .i64 k, .int .i64 i3, .string s4, .string acc, .int .i64 amt', .string s7, .string s8]] w fun e w' => e = .returned (wV 0 ⟨#[]⟩ true) ∧ Below w.heap.size w w' := by
  have c1 := hide (rnum_no ha)
  have c2 := hide (fun w => rto_ok y m d k w hd)
  have hy : (y : Int) ≤ 9999 := by have := hd.y2; omega
  have hy0 : (0 : Int) ≤ (y : Int) := by omega
  have hm : (m : Int) ≤ 12 := by have := hd.m2; omega
  have hm0 : (0 : Int) ≤ (m : Int) := by omega
  have c3 := hide (rnum_no hn)
  clear ha hd hn
  go_enter Tryz.func19, Tryz.ntmps19
  go_upto_region 7 with (first | (go_at_call 24; refine (unhide c1 _).mono ?_; rintro e w' ⟨rfl, hw⟩; subst hw) | (go_at_call 25; refine (unhide c2 _).mono ?_; rintro e w' ⟨rfl, hw⟩; subst hw))
  clear c1 c2
  go_wp2_with (go_at_call 24; refine (unhide c3 _).mono ?_; rintro e w' ⟨rfl, hw⟩; subst hw)
  exact bodyPost_ret (v := wV 0 ⟨#[]⟩ true) (by simp [results, Tryz.results19, go_sem]) rfl ⟨rfl, by repeat (first | exact Below.refl _ _ | refine Below.alloc ?_ (by simp <;> omega) _)⟩
theorem rf2nny {i0 i1 i3 amt' : Int} {s4 acc s7 s8 : ByteArray} {i2 : Int} (ha : amt amt' = false) (hd : i2 < 1 ∨ 1 ≤ i2 ∧ 3652059 < i2) (hn : amt i1 = true) (w : World) : Calls Tryz.prog 19 #[.int .i64 2, .agg #[.int .i64 i0, .int .i64 i1, .int .i64 i2, .int .i64 i3, .string s4, .string acc, .int .i64 amt', .string s7, .string s8]] w fun e w' => e = .returned (wV i1 ⟨#[]⟩ false) ∧ Below w.heap.size w w' := by
  have c1 := hide (rnum_no ha)
  have c2 := hide (fun w => rto_bad i2 w hd)
  have c3 := hide (rnum_yes hn)
  clear ha hd hn
  go_enter Tryz.func19, Tryz.ntmps19
  go_upto_region 7 with (first | (go_at_call 24; refine (unhide c1 _).mono ?_; rintro e w' ⟨rfl, hw⟩; subst hw) | (go_at_call 25; refine (unhide c2 _).mono ?_; rintro e w' ⟨rfl, hw⟩; subst hw))
  clear c1 c2
  go_wp2_with (go_at_call 24; refine (unhide c3 _).mono ?_; rintro e w' ⟨rfl, hw⟩; subst hw)
  exact bodyPost_ret (v := wV i1 ⟨#[]⟩ false) (by simp [results, Tryz.results19, go_sem]) rfl ⟨rfl, by repeat (first | exact Below.refl _ _ | refine Below.alloc ?_ (by simp <;> omega) _)⟩
theorem rf2nnn {i0 i1 i3 amt' : Int} {s4 acc s7 s8 : ByteArray} {i2 : Int} (ha : amt amt' = false) (hd : i2 < 1 ∨ 1 ≤ i2 ∧ 3652059 < i2) (hn : amt i1 = false) (w : World) : Calls Tryz.prog 19 #[.int .i64 2, .agg #[.int .i64 i0, .int .i64 i1, .int .i64 i2, .int .i64 i3, .string s4, .string acc, .int .i64 amt', .string s7, .string s8]] w fun e w' => e = .returned (wV 0 ⟨#[]⟩ true) ∧ Below w.heap.size w w' := by
  have c1 := hide (rnum_no ha)
  have c2 := hide (fun w => rto_bad i2 w hd)
  have c3 := hide (rnum_no hn)
  clear ha hd hn
  go_enter Tryz.func19, Tryz.ntmps19
  go_upto_region 7 with (first | (go_at_call 24; refine (unhide c1 _).mono ?_; rintro e w' ⟨rfl, hw⟩; subst hw) | (go_at_call 25; refine (unhide c2 _).mono ?_; rintro e w' ⟨rfl, hw⟩; subst hw))
  clear c1 c2
  go_wp2_with (go_at_call 24; refine (unhide c3 _).mono ?_; rintro e w' ⟨rfl, hw⟩; subst hw)
  exact bodyPost_ret (v := wV 0 ⟨#[]⟩ true) (by simp [results, Tryz.results19, go_sem]) rfl ⟨rfl, by repeat (first | exact Below.refl _ _ | refine Below.alloc ?_ (by simp <;> omega) _)⟩
theorem rf3yy {i0 i1 i3 amt' : Int} {s4 acc s7 s8 : ByteArray} {y m d k : Nat} (ha : amt amt' = true) (hd : Dat y m d k) (w : World) : Calls Tryz.prog 19 #[.int .i64 3, .agg #[.int .i64 i0, .int .i64 i1, .int .i64 k, .int .i64 i3, .string s4, .string acc, .int .i64 amt', .string s7, .string s8]] w fun e w' => e = .returned (wV k ⟨#[]⟩ false) ∧ Below w.heap.size w w' := by
  have c1 := hide (rnum_yes ha)
  have c2 := hide (fun w => rto_ok y m d k w hd)
  have hy : (y : Int) ≤ 9999 := by have := hd.y2; omega
  have hy0 : (0 : Int) ≤ (y : Int) := by omega
  have hm : (m : Int) ≤ 12 := by have := hd.m2; omega
  have hm0 : (0 : Int) ≤ (m : Int) := by omega
  have c3 := hide (rday_yes (n := k) (by unfold dayB; rw [Bool.and_eq_true, decide_eq_true_iff, decide_eq_true_iff]; have := hd.lo; have := hd.hi; omega))
  clear ha hd
  go_enter Tryz.func19, Tryz.ntmps19
  go_wp2_with (first | (go_at_call 24; refine (unhide c1 _).mono ?_; rintro e w' ⟨rfl, hw⟩; subst hw) | (go_at_call 25; refine (unhide c2 _).mono ?_; rintro e w' ⟨rfl, hw⟩; subst hw) | (go_at_call 26; refine (unhide c3 _).mono ?_; rintro e w' ⟨rfl, hw⟩; subst hw))
  exact bodyPost_ret (v := wV k ⟨#[]⟩ false) (by simp [results, Tryz.results19, go_sem]) rfl ⟨rfl, by repeat (first | exact Below.refl _ _ | refine Below.alloc ?_ (by simp <;> omega) _)⟩
theorem rf3yn {i0 i1 i3 amt' : Int} {s4 acc s7 s8 : ByteArray} {i2 : Int} (ha : amt amt' = true) (hd : i2 < 1 ∨ 1 ≤ i2 ∧ 3652059 < i2) (w : World) : Calls Tryz.prog 19 #[.int .i64 3, .agg #[.int .i64 i0, .int .i64 i1, .int .i64 i2, .int .i64 i3, .string s4, .string acc, .int .i64 amt', .string s7, .string s8]] w fun e w' => e = .returned (wV 0 ⟨#[]⟩ true) ∧ Below w.heap.size w w' := by
  have c1 := hide (rnum_yes ha)
  have c2 := hide (fun w => rto_bad i2 w hd)
  have c3 := hide (rday_no (n := i2) (by unfold dayB; rw [Bool.and_eq_false_iff, decide_eq_false_iff_not, decide_eq_false_iff_not]; omega))
  clear ha hd
  go_enter Tryz.func19, Tryz.ntmps19
  go_wp2_with (first | (go_at_call 24; refine (unhide c1 _).mono ?_; rintro e w' ⟨rfl, hw⟩; subst hw) | (go_at_call 25; refine (unhide c2 _).mono ?_; rintro e w' ⟨rfl, hw⟩; subst hw) | (go_at_call 26; refine (unhide c3 _).mono ?_; rintro e w' ⟨rfl, hw⟩; subst hw))
  exact bodyPost_ret (v := wV 0 ⟨#[]⟩ true) (by simp [results, Tryz.results19, go_sem]) rfl ⟨rfl, by repeat (first | exact Below.refl _ _ | refine Below.alloc ?_ (by simp <;> omega) _)⟩
theorem rf3ny {i0 i1 i3 amt' : Int} {s4 acc s7 s8 : ByteArray} {y m d k : Nat} (ha : amt amt' = false) (hd : Dat y m d k) (w : World) : Calls Tryz.prog 19 #[.int .i64 3, .agg #[.int .i64 i0, .int .i64 i1, .int .i64 k, .int .i64 i3, .string s4, .string acc, .int .i64 amt', .string s7, .string s8]] w fun e w' => e = .returned (wV k ⟨#[]⟩ false) ∧ Below w.heap.size w w' := by
  have c1 := hide (rnum_no ha)
  have c2 := hide (fun w => rto_ok y m d k w hd)
  have hy : (y : Int) ≤ 9999 := by have := hd.y2; omega
  have hy0 : (0 : Int) ≤ (y : Int) := by omega
  have hm : (m : Int) ≤ 12 := by have := hd.m2; omega
  have hm0 : (0 : Int) ≤ (m : Int) := by omega
  have c3 := hide (rday_yes (n := k) (by unfold dayB; rw [Bool.and_eq_true, decide_eq_true_iff, decide_eq_true_iff]; have := hd.lo; have := hd.hi; omega))
  clear ha hd
  go_enter Tryz.func19, Tryz.ntmps19
  go_wp2_with (first | (go_at_call 24; refine (unhide c1 _).mono ?_; rintro e w' ⟨rfl, hw⟩; subst hw) | (go_at_call 25; refine (unhide c2 _).mono ?_; rintro e w' ⟨rfl, hw⟩; subst hw) | (go_at_call 26; refine (unhide c3 _).mono ?_; rintro e w' ⟨rfl, hw⟩; subst hw))
  exact bodyPost_ret (v := wV k ⟨#[]⟩ false) (by simp [results, Tryz.results19, go_sem]) rfl ⟨rfl, by repeat (first | exact Below.refl _ _ | refine Below.alloc ?_ (by simp <;> omega) _)⟩
theorem rf3nn {i0 i1 i3 amt' : Int} {s4 acc s7 s8 : ByteArray} {i2 : Int} (ha : amt amt' = false) (hd : i2 < 1 ∨ 1 ≤ i2 ∧ 3652059 < i2) (w : World) : Calls Tryz.prog 19 #[.int .i64 3, .agg #[.int .i64 i0, .int .i64 i1, .int .i64 i2, .int .i64 i3, .string s4, .string acc, .int .i64 amt', .string s7, .string s8]] w fun e w' => e = .returned (wV 0 ⟨#[]⟩ true) ∧ Below w.heap.size w w' := by
  have c1 := hide (rnum_no ha)
  have c2 := hide (fun w => rto_bad i2 w hd)
  have c3 := hide (rday_no (n := i2) (by unfold dayB; rw [Bool.and_eq_false_iff, decide_eq_false_iff_not, decide_eq_false_iff_not]; omega))
  clear ha hd
  go_enter Tryz.func19, Tryz.ntmps19
  go_wp2_with (first | (go_at_call 24; refine (unhide c1 _).mono ?_; rintro e w' ⟨rfl, hw⟩; subst hw) | (go_at_call 25; refine (unhide c2 _).mono ?_; rintro e w' ⟨rfl, hw⟩; subst hw) | (go_at_call 26; refine (unhide c3 _).mono ?_; rintro e w' ⟨rfl, hw⟩; subst hw))
  exact bodyPost_ret (v := wV 0 ⟨#[]⟩ true) (by simp [results, Tryz.results19, go_sem]) rfl ⟨rfl, by repeat (first | exact Below.refl _ _ | refine Below.alloc ?_ (by simp <;> omega) _)⟩
theorem rf4yyy {i0 i1 i3 amt' : Int} {s4 acc s7 s8 : ByteArray} {y m d k : Nat} (ha : amt amt' = true) (hd : Dat y m d k) (hn : amt i3 = true) (w : World) : Calls Tryz.prog 19 #[.int .i64 4, .agg #[.int .i64 i0, .int .i64 i1, .int .i64 k, .int .i64 i3, .string s4, .string acc, .int .i64 amt', .string s7, .string s8]] w fun e w' => e = .returned (wV i3 ⟨#[]⟩ false) ∧ Below w.heap.size w w' := by
  have c1 := hide (rnum_yes ha)
  have c2 := hide (fun w => rto_ok y m d k w hd)
  have hy : (y : Int) ≤ 9999 := by have := hd.y2; omega
  have hy0 : (0 : Int) ≤ (y : Int) := by omega
  have hm : (m : Int) ≤ 12 := by have := hd.m2; omega
  have hm0 : (0 : Int) ≤ (m : Int) := by omega
  have c3 := hide (rnum_yes hn)
  clear ha hd hn
  go_enter Tryz.func19, Tryz.ntmps19
  go_upto_region 11 with (first | (go_at_call 24; refine (unhide c1 _).mono ?_; rintro e w' ⟨rfl, hw⟩; subst hw) | (go_at_call 25; refine (unhide c2 _).mono ?_; rintro e w' ⟨rfl, hw⟩; subst hw))
  clear c1 c2
  go_wp2_with (go_at_call 24; refine (unhide c3 _).mono ?_; rintro e w' ⟨rfl, hw⟩; subst hw)
  exact bodyPost_ret (v := wV i3 ⟨#[]⟩ false) (by simp [results, Tryz.results19, go_sem]) rfl ⟨rfl, by repeat (first | exact Below.refl _ _ | refine Below.alloc ?_ (by simp <;> omega) _)⟩
theorem rf4yyn {i0 i1 i3 amt' : Int} {s4 acc s7 s8 : ByteArray} {y m d k : Nat} (ha : amt amt' = true) (hd : Dat y m d k) (hn : amt i3 = false) (w : World) : Calls Tryz.prog 19 #[.int .i64 4, .agg #[.int .i64 i0, .int .i64 i1, .int .i64 k, .int .i64 i3, .string s4, .string acc, .int .i64 amt', .string s7, .string s8]] w fun e w' => e = .returned (wV 0 ⟨#[]⟩ true) ∧ Below w.heap.size w w' := by
  have c1 := hide (rnum_yes ha)
  have c2 := hide (fun w => rto_ok y m d k w hd)
  have hy : (y : Int) ≤ 9999 := by have := hd.y2; omega
  have hy0 : (0 : Int) ≤ (y : Int) := by omega
  have hm : (m : Int) ≤ 12 := by have := hd.m2; omega
  have hm0 : (0 : Int) ≤ (m : Int) := by omega
  have c3 := hide (rnum_no hn)
  clear ha hd hn
  go_enter Tryz.func19, Tryz.ntmps19
  go_upto_region 11 with (first | (go_at_call 24; refine (unhide c1 _).mono ?_; rintro e w' ⟨rfl, hw⟩; subst hw) | (go_at_call 25; refine (unhide c2 _).mono ?_; rintro e w' ⟨rfl, hw⟩; subst hw))
  clear c1 c2
  go_wp2_with (go_at_call 24; refine (unhide c3 _).mono ?_; rintro e w' ⟨rfl, hw⟩; subst hw)
  exact bodyPost_ret (v := wV 0 ⟨#[]⟩ true) (by simp [results, Tryz.results19, go_sem]) rfl ⟨rfl, by repeat (first | exact Below.refl _ _ | refine Below.alloc ?_ (by simp <;> omega) _)⟩
theorem rf4yny {i0 i1 i3 amt' : Int} {s4 acc s7 s8 : ByteArray} {i2 : Int} (ha : amt amt' = true) (hd : i2 < 1 ∨ 1 ≤ i2 ∧ 3652059 < i2) (hn : amt i3 = true) (w : World) : Calls Tryz.prog 19 #[.int .i64 4, .agg #[.int .i64 i0, .int .i64 i1, .int .i64 i2, .int .i64 i3, .string s4, .string acc, .int .i64 amt', .string s7, .string s8]] w fun e w' => e = .returned (wV i3 ⟨#[]⟩ false) ∧ Below w.heap.size w w' := by
  have c1 := hide (rnum_yes ha)
  have c2 := hide (fun w => rto_bad i2 w hd)
  have c3 := hide (rnum_yes hn)
  clear ha hd hn
  go_enter Tryz.func19, Tryz.ntmps19
  go_upto_region 11 with (first | (go_at_call 24; refine (unhide c1 _).mono ?_; rintro e w' ⟨rfl, hw⟩; subst hw) | (go_at_call 25; refine (unhide c2 _).mono ?_; rintro e w' ⟨rfl, hw⟩; subst hw))
  clear c1 c2
  go_wp2_with (go_at_call 24; refine (unhide c3 _).mono ?_; rintro e w' ⟨rfl, hw⟩; subst hw)
  exact bodyPost_ret (v := wV i3 ⟨#[]⟩ false) (by simp [results, Tryz.results19, go_sem]) rfl ⟨rfl, by repeat (first | exact Below.refl _ _ | refine Below.alloc ?_ (by simp <;> omega) _)⟩
theorem rf4ynn {i0 i1 i3 amt' : Int} {s4 acc s7 s8 : ByteArray} {i2 : Int} (ha : amt amt' = true) (hd : i2 < 1 ∨ 1 ≤ i2 ∧ 3652059 < i2) (hn : amt i3 = false) (w : World) : Calls Tryz.prog 19 #[.int .i64 4, .agg #[.int .i64 i0, .int .i64 i1, .int .i64 i2, .int .i64 i3, .string s4, .string acc, .int .i64 amt', .string s7, .string s8]] w fun e w' => e = .returned (wV 0 ⟨#[]⟩ true) ∧ Below w.heap.size w w' := by
  have c1 := hide (rnum_yes ha)
  have c2 := hide (fun w => rto_bad i2 w hd)
  have c3 := hide (rnum_no hn)
  clear ha hd hn
  go_enter Tryz.func19, Tryz.ntmps19
  go_upto_region 11 with (first | (go_at_call 24; refine (unhide c1 _).mono ?_; rintro e w' ⟨rfl, hw⟩; subst hw) | (go_at_call 25; refine (unhide c2 _).mono ?_; rintro e w' ⟨rfl, hw⟩; subst hw))
  clear c1 c2
  go_wp2_with (go_at_call 24; refine (unhide c3 _).mono ?_; rintro e w' ⟨rfl, hw⟩; subst hw)
  exact bodyPost_ret (v := wV 0 ⟨#[]⟩ true) (by simp [results, Tryz.results19, go_sem]) rfl ⟨rfl, by repeat (first | exact Below.refl _ _ | refine Below.alloc ?_ (by simp <;> omega) _)⟩
theorem rf4nyy {i0 i1 i3 amt' : Int} {s4 acc s7 s8 : ByteArray} {y m d k : Nat} (ha : amt amt' = false) (hd : Dat y m d k) (hn : amt i3 = true) (w : World) : Calls Tryz.prog 19 #[.int .i64 4, .agg #[.int .i64 i0, .int .i64 i1, .int .i64 k, .int .i64 i3, .string s4, .string acc, .int .i64 amt', .string s7, .string s8]] w fun e w' => e = .returned (wV i3 ⟨#[]⟩ false) ∧ Below w.heap.size w w' := by
  have c1 := hide (rnum_no ha)
  have c2 := hide (fun w => rto_ok y m d k w hd)
  have hy : (y : Int) ≤ 9999 := by have := hd.y2; omega
  have hy0 : (0 : Int) ≤ (y : Int) := by omega
  have hm : (m : Int) ≤ 12 := by have := hd.m2; omega
  have hm0 : (0 : Int) ≤ (m : Int) := by omega
  have c3 := hide (rnum_yes hn)
  clear ha hd hn
  go_enter Tryz.func19, Tryz.ntmps19
  go_upto_region 11 with (first | (go_at_call 24; refine (unhide c1 _).mono ?_; rintro e w' ⟨rfl, hw⟩; subst hw) | (go_at_call 25; refine (unhide c2 _).mono ?_; rintro e w' ⟨rfl, hw⟩; subst hw))
  clear c1 c2
  go_wp2_with (go_at_call 24; refine (unhide c3 _).mono ?_; rintro e w' ⟨rfl, hw⟩; subst hw)
  exact bodyPost_ret (v := wV i3 ⟨#[]⟩ false) (by simp [results, Tryz.results19, go_sem]) rfl ⟨rfl, by repeat (first | exact Below.refl _ _ | refine Below.alloc ?_ (by simp <;> omega) _)⟩
theorem rf4nyn {i0 i1 i3 amt' : Int} {s4 acc s7 s8 : ByteArray} {y m d k : Nat} (ha : amt amt' = false) (hd : Dat y m d k) (hn : amt i3 = false) (w : World) : Calls Tryz.prog 19 #[.int .i64 4, .agg #[.int .i64 i0, .int .i64 i1, .int .i64 k, .int .i64 i3, .string s4, .string acc, .int .i64 amt', .string s7, .string s8]] w fun e w' => e = .returned (wV 0 ⟨#[]⟩ true) ∧ Below w.heap.size w w' := by
  have c1 := hide (rnum_no ha)
  have c2 := hide (fun w => rto_ok y m d k w hd)
  have hy : (y : Int) ≤ 9999 := by have := hd.y2; omega
  have hy0 : (0 : Int) ≤ (y : Int) := by omega
  have hm : (m : Int) ≤ 12 := by have := hd.m2; omega
  have hm0 : (0 : Int) ≤ (m : Int) := by omega
  have c3 := hide (rnum_no hn)
  clear ha hd hn
  go_enter Tryz.func19, Tryz.ntmps19
  go_upto_region 11 with (first | (go_at_call 24; refine (unhide c1 _).mono ?_; rintro e w' ⟨rfl, hw⟩; subst hw) | (go_at_call 25; refine (unhide c2 _).mono ?_; rintro e w' ⟨rfl, hw⟩; subst hw))
  clear c1 c2
  go_wp2_with (go_at_call 24; refine (unhide c3 _).mono ?_; rintro e w' ⟨rfl, hw⟩; subst hw)
  exact bodyPost_ret (v := wV 0 ⟨#[]⟩ true) (by simp [results, Tryz.results19, go_sem]) rfl ⟨rfl, by repeat (first | exact Below.refl _ _ | refine Below.alloc ?_ (by simp <;> omega) _)⟩
theorem rf4nny {i0 i1 i3 amt' : Int} {s4 acc s7 s8 : ByteArray} {i2 : Int} (ha : amt amt' = false) (hd : i2 < 1 ∨ 1 ≤ i2 ∧ 3652059 < i2) (hn : amt i3 = true) (w : World) : Calls Tryz.prog 19 #[.int .i64 4, .agg #[.int .i64 i0, .int .i64 i1, .int .i64 i2, .int .i64 i3, .string s4, .string acc, .int .i64 amt', .string s7, .string s8]] w fun e w' => e = .returned (wV i3 ⟨#[]⟩ false) ∧ Below w.heap.size w w' := by
  have c1 := hide (rnum_no ha)
  have c2 := hide (fun w => rto_bad i2 w hd)
  have c3 := hide (rnum_yes hn)
  clear ha hd hn
  go_enter Tryz.func19, Tryz.ntmps19
  go_upto_region 11 with (first | (go_at_call 24; refine (unhide c1 _).mono ?_; rintro e w' ⟨rfl, hw⟩; subst hw) | (go_at_call 25; refine (unhide c2 _).mono ?_; rintro e w' ⟨rfl, hw⟩; subst hw))
  clear c1 c2
  go_wp2_with (go_at_call 24; refine (unhide c3 _).mono ?_; rintro e w' ⟨rfl, hw⟩; subst hw)
  exact bodyPost_ret (v := wV i3 ⟨#[]⟩ false) (by simp [results, Tryz.results19, go_sem]) rfl ⟨rfl, by repeat (first | exact Below.refl _ _ | refine Below.alloc ?_ (by simp <;> omega) _)⟩
theorem rf4nnn {i0 i1 i3 amt' : Int} {s4 acc s7 s8 : ByteArray} {i2 : Int} (ha : amt amt' = false) (hd : i2 < 1 ∨ 1 ≤ i2 ∧ 3652059 < i2) (hn : amt i3 = false) (w : World) : Calls Tryz.prog 19 #[.int .i64 4, .agg #[.int .i64 i0, .int .i64 i1, .int .i64 i2, .int .i64 i3, .string s4, .string acc, .int .i64 amt', .string s7, .string s8]] w fun e w' => e = .returned (wV 0 ⟨#[]⟩ true) ∧ Below w.heap.size w w' := by
  have c1 := hide (rnum_no ha)
  have c2 := hide (fun w => rto_bad i2 w hd)
  have c3 := hide (rnum_no hn)
  clear ha hd hn
  go_enter Tryz.func19, Tryz.ntmps19
  go_upto_region 11 with (first | (go_at_call 24; refine (unhide c1 _).mono ?_; rintro e w' ⟨rfl, hw⟩; subst hw) | (go_at_call 25; refine (unhide c2 _).mono ?_; rintro e w' ⟨rfl, hw⟩; subst hw))
  clear c1 c2
  go_wp2_with (go_at_call 24; refine (unhide c3 _).mono ?_; rintro e w' ⟨rfl, hw⟩; subst hw)
  exact bodyPost_ret (v := wV 0 ⟨#[]⟩ true) (by simp [results, Tryz.results19, go_sem]) rfl ⟨rfl, by repeat (first | exact Below.refl _ _ | refine Below.alloc ?_ (by simp <;> omega) _)⟩
end Go.Proofs.YtbenciieenbmeaaGreatDoor
