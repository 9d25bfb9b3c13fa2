import Derived.Test.YtbenciieenbmeaaGreatDoorX02
/- the document's field (19), case by case. -/
namespace Go.Proofs.YtbenciieenbmeaaGreatDoor
open Go Go.Shelf Go.ChangeShapes Go.WideShapes Go.ChangeAt Go.RowKit Go.Maps
set_option linter.unusedVariables false
set_option maxRecDepth 100000
set_option maxHeartbeats 2000000
theorem rf5yy {i0 i1 i3 amt' : Int} {s4 acc s7 s8 : ByteArray} {y m d k : Nat} (ha : amt amt' = true) (hd : Dat y m d k) (w : World) : Calls Tryz.prog 19 #[.int .i64 5, .agg #[.int .i64 i0, .int .i64 i1, .int .i64 k, .int .i64 i3, .string s4, .string acc, .int .i64 amt', .string s7, .string s8]] w fun e w' => e = .returned (wV 0 s4 false) ∧ Below w.heap.size w w' := by
  have c1 := hide (rnum_yes ha)
  have c2 := hide (fun w => rto_ok y m d k w hd)
  have hy : (y : Int) ≤ 9999 := by have := hd.y2; omega
  have hy0 : (0 : Int) ≤ (y : Int) := by omega
  have hm : (m : Int) ≤ 12 := by have := hd.m2; omega
  have hm0 : (0 : Int) ≤ (m : Int) := by omega
  clear ha hd
  go_enter Tryz.func19, Tryz.ntmps19
  go_wp2_with (first | (go_at_call 24; refine (unhide c1 _).mono ?_; rintro e w' ⟨rfl, hw⟩; subst hw) | (go_at_call 25; refine (unhide c2 _).mono ?_; rintro e w' ⟨rfl, hw⟩; subst hw))
  exact bodyPost_ret (v := wV 0 s4 false) (by simp [results, Tryz.results19, go_sem]) rfl ⟨rfl, by repeat (first | exact Below.refl _ _ | refine Below.alloc ?_ (by simp <;> omega) _)⟩
theorem rf5yn {i0 i1 i3 amt' : Int} {s4 acc s7 s8 : ByteArray} {i2 : Int} (ha : amt amt' = true) (hd : i2 < 1 ∨ 1 ≤ i2 ∧ 3652059 < i2) (w : World) : Calls Tryz.prog 19 #[.int .i64 5, .agg #[.int .i64 i0, .int .i64 i1, .int .i64 i2, .int .i64 i3, .string s4, .string acc, .int .i64 amt', .string s7, .string s8]] w fun e w' => e = .returned (wV 0 s4 false) ∧ Below w.heap.size w w' := by
  have c1 := hide (rnum_yes ha)
  have c2 := hide (fun w => rto_bad i2 w hd)
  clear ha hd
  go_enter Tryz.func19, Tryz.ntmps19
  go_wp2_with (first | (go_at_call 24; refine (unhide c1 _).mono ?_; rintro e w' ⟨rfl, hw⟩; subst hw) | (go_at_call 25; refine (unhide c2 _).mono ?_; rintro e w' ⟨rfl, hw⟩; subst hw))
  exact bodyPost_ret (v := wV 0 s4 false) (by simp [results, Tryz.results19, go_sem]) rfl ⟨rfl, by repeat (first | exact Below.refl _ _ | refine Below.alloc ?_ (by simp <;> omega) _)⟩
theorem rf5ny {i0 i1 i3 amt' : Int} {s4 acc s7 s8 : ByteArray} {y m d k : Nat} (ha : amt amt' = false) (hd : Dat y m d k) (w : World) : Calls Tryz.prog 19 #[.int .i64 5, .agg #[.int .i64 i0, .int .i64 i1, .int .i64 k, .int .i64 i3, .string s4, .string acc, .int .i64 amt', .string s7, .string s8]] w fun e w' => e = .returned (wV 0 s4 false) ∧ Below w.heap.size w w' := by
  have c1 := hide (rnum_no ha)
  have c2 := hide (fun w => rto_ok y m d k w hd)
  have hy : (y : Int) ≤ 9999 := by have := hd.y2; omega
  have hy0 : (0 : Int) ≤ (y : Int) := by omega
  have hm : (m : Int) ≤ 12 := by have := hd.m2; omega
  have hm0 : (0 : Int) ≤ (m : Int) := by omega
  clear ha hd
  go_enter Tryz.func19, Tryz.ntmps19
  go_wp2_with (first | (go_at_call 24; refine (unhide c1 _).mono ?_; rintro e w' ⟨rfl, hw⟩; subst hw) | (go_at_call 25; refine (unhide c2 _).mono ?_; rintro e w' ⟨rfl, hw⟩; subst hw))
  exact bodyPost_ret (v := wV 0 s4 false) (by simp [results, Tryz.results19, go_sem]) rfl ⟨rfl, by repeat (first | exact Below.refl _ _ | refine Below.alloc ?_ (by simp <;> omega) _)⟩
theorem rf5nn {i0 i1 i3 amt' : Int} {s4 acc s7 s8 : ByteArray} {i2 : Int} (ha : amt amt' = false) (hd : i2 < 1 ∨ 1 ≤ i2 ∧ 3652059 < i2) (w : World) : Calls Tryz.prog 19 #[.int .i64 5, .agg #[.int .i64 i0, .int .i64 i1, .int .i64 i2, .int .i64 i3, .string s4, .string acc, .int .i64 amt', .string s7, .string s8]] w fun e w' => e = .returned (wV 0 s4 false) ∧ Below w.heap.size w w' := by
  have c1 := hide (rnum_no ha)
  have c2 := hide (fun w => rto_bad i2 w hd)
  clear ha hd
  go_enter Tryz.func19, Tryz.ntmps19
  go_wp2_with (first | (go_at_call 24; refine (unhide c1 _).mono ?_; rintro e w' ⟨rfl, hw⟩; subst hw) | (go_at_call 25; refine (unhide c2 _).mono ?_; rintro e w' ⟨rfl, hw⟩; subst hw))
  exact bodyPost_ret (v := wV 0 s4 false) (by simp [results, Tryz.results19, go_sem]) rfl ⟨rfl, by repeat (first | exact Below.refl _ _ | refine Below.alloc ?_ (by simp <;> omega) _)⟩
theorem rf6yy {i0 i1 i3 amt' : Int} {s4 acc s7 s8 : ByteArray} {y m d k : Nat} (ha : amt amt' = true) (hd : Dat y m d k) (w : World) : Calls Tryz.prog 19 #[.int .i64 6, .agg #[.int .i64 i0, .int .i64 i1, .int .i64 k, .int .i64 i3, .string s4, .string acc, .int .i64 amt', .string s7, .string s8]] w fun e w' => e = .returned (wV 0 acc false) ∧ Below w.heap.size w w' := by
  have c1 := hide (rnum_yes ha)
  have c2 := hide (fun w => rto_ok y m d k w hd)
  have hy : (y : Int) ≤ 9999 := by have := hd.y2; omega
  have hy0 : (0 : Int) ≤ (y : Int) := by omega
  have hm : (m : Int) ≤ 12 := by have := hd.m2; omega
  have hm0 : (0 : Int) ≤ (m : Int) := by omega
  clear ha hd
  go_enter Tryz.func19, Tryz.ntmps19
  go_wp2_with (first | (go_at_call 24; refine (unhide c1 _).mono ?_; rintro e w' ⟨rfl, hw⟩; subst hw) | (go_at_call 25; refine (unhide c2 _).mono ?_; rintro e w' ⟨rfl, hw⟩; subst hw))
  exact bodyPost_ret (v := wV 0 acc false) (by simp [results, Tryz.results19, go_sem]) rfl ⟨rfl, by repeat (first | exact Below.refl _ _ | refine Below.alloc ?_ (by simp <;> omega) _)⟩
theorem rf6yn {i0 i1 i3 amt' : Int} {s4 acc s7 s8 : ByteArray} {i2 : Int} (ha : amt amt' = true) (hd : i2 < 1 ∨ 1 ≤ i2 ∧ 3652059 < i2) (w : World) : Calls Tryz.prog 19 #[.int .i64 6, .agg #[.int .i64 i0, .int .i64 i1, .int .i64 i2, .int .i64 i3, .string s4, .string acc, .int .i64 amt', .string s7, .string s8]] w fun e w' => e = .returned (wV 0 acc false) ∧ Below w.heap.size w w' := by
  have c1 := hide (rnum_yes ha)
  have c2 := hide (fun w => rto_bad i2 w hd)
  clear ha hd
  go_enter Tryz.func19, Tryz.ntmps19
  go_wp2_with (first | (go_at_call 24; refine (unhide c1 _).mono ?_; rintro e w' ⟨rfl, hw⟩; subst hw) | (go_at_call 25; refine (unhide c2 _).mono ?_; rintro e w' ⟨rfl, hw⟩; subst hw))
  exact bodyPost_ret (v := wV 0 acc false) (by simp [results, Tryz.results19, go_sem]) rfl ⟨rfl, by repeat (first | exact Below.refl _ _ | refine Below.alloc ?_ (by simp <;> omega) _)⟩
theorem rf6ny {i0 i1 i3 amt' : Int} {s4 acc s7 s8 : ByteArray} {y m d k : Nat} (ha : amt amt' = false) (hd : Dat y m d k) (w : World) : Calls Tryz.prog 19 #[.int .i64 6, .agg #[.int .i64 i0, .int .i64 i1, .int .i64 k, .int .i64 i3, .string s4, .string acc, .int .i64 amt', .string s7, .string s8]] w fun e w' => e = .returned (wV 0 acc false) ∧ Below w.heap.size w w' := by
  have c1 := hide (rnum_no ha)
  have c2 := hide (fun w => rto_ok y m d k w hd)
  have hy : (y : Int) ≤ 9999 := by have := hd.y2; omega
  have hy0 : (0 : Int) ≤ (y : Int) := by omega
  have hm : (m : Int) ≤ 12 := by have := hd.m2; omega
  have hm0 : (0 : Int) ≤ (m : Int) := by omega
  clear ha hd
  go_enter Tryz.func19, Tryz.ntmps19
  go_wp2_with (first | (go_at_call 24; refine (unhide c1 _).mono ?_; rintro e w' ⟨rfl, hw⟩; subst hw) | (go_at_call 25; refine (unhide c2 _).mono ?_; rintro e w' ⟨rfl, hw⟩; subst hw))
  exact bodyPost_ret (v := wV 0 acc false) (by simp [results, Tryz.results19, go_sem]) rfl ⟨rfl, by repeat (first | exact Below.refl _ _ | refine Below.alloc ?_ (by simp <;> omega) _)⟩
theorem rf6nn {i0 i1 i3 amt' : Int} {s4 acc s7 s8 : ByteArray} {i2 : Int} (ha : amt amt' = false) (hd : i2 < 1 ∨ 1 ≤ i2 ∧ 3652059 < i2) (w : World) : Calls Tryz.prog 19 #[.int .i64 6, .agg #[.int .i64 i0, .int .i64 i1, .int .i64 i2, .int .i64 i3, .string s4, .string acc, .int .i64 amt', .string s7, .string s8]] w fun e w' => e = .returned (wV 0 acc false) ∧ Below w.heap.size w w' := by
  have c1 := hide (rnum_no ha)
  have c2 := hide (fun w => rto_bad i2 w hd)
  clear ha hd
  go_enter Tryz.func19, Tryz.ntmps19
  go_wp2_with (first | (go_at_call 24; refine (unhide c1 _).mono ?_; rintro e w' ⟨rfl, hw⟩; subst hw) | (go_at_call 25; refine (unhide c2 _).mono ?_; rintro e w' ⟨rfl, hw⟩; subst hw))
  exact bodyPost_ret (v := wV 0 acc false) (by simp [results, Tryz.results19, go_sem]) rfl ⟨rfl, by repeat (first | exact Below.refl _ _ | refine Below.alloc ?_ (by simp <;> omega) _)⟩
theorem rf7yy {i0 i1 i3 amt' : Int} {s4 acc s7 s8 : ByteArray} {y m d k : Nat} (ha : amt amt' = true) (hd : Dat y m d k) (w : World) : Calls Tryz.prog 19 #[.int .i64 7, .agg #[.int .i64 i0, .int .i64 i1, .int .i64 k, .int .i64 i3, .string s4, .string acc, .int .i64 amt', .string s7, .string s8]] w fun e w' => e = .returned (wV amt' ⟨#[]⟩ false) ∧ Below w.heap.size w w' := by
  have c1 := hide (rnum_yes ha)
  have c2 := hide (fun w => rto_ok y m d k w hd)
  have hy : (y : Int) ≤ 9999 := by have := hd.y2; omega
  have hy0 : (0 : Int) ≤ (y : Int) := by omega
  have hm : (m : Int) ≤ 12 := by have := hd.m2; omega
  have hm0 : (0 : Int) ≤ (m : Int) := by omega
  clear ha hd
  go_enter Tryz.func19, Tryz.ntmps19
  go_wp2_with (first | (go_at_call 24; refine (unhide c1 _).mono ?_; rintro e w' ⟨rfl, hw⟩; subst hw) | (go_at_call 25; refine (unhide c2 _).mono ?_; rintro e w' ⟨rfl, hw⟩; subst hw))
  exact bodyPost_ret (v := wV amt' ⟨#[]⟩ false) (by simp [results, Tryz.results19, go_sem]) rfl ⟨rfl, by repeat (first | exact Below.refl _ _ | refine Below.alloc ?_ (by simp <;> omega) _)⟩
theorem rf7yn {i0 i1 i3 amt' : Int} {s4 acc s7 s8 : ByteArray} {i2 : Int} (ha : amt amt' = true) (hd : i2 < 1 ∨ 1 ≤ i2 ∧ 3652059 < i2) (w : World) : Calls Tryz.prog 19 #[.int .i64 7, .agg #[.int .i64 i0, .int .i64 i1, .int .i64 i2, .int .i64 i3, .string s4, .string acc, .int .i64 amt', .string s7, .string s8]] w fun e w' => e = .returned (wV amt' ⟨#[]⟩ false) ∧ Below w.heap.size w w' := by
  have c1 := hide (rnum_yes ha)
  have c2 := hide (fun w => rto_bad i2 w hd)
  clear ha hd
  go_enter Tryz.func19, Tryz.ntmps19
  go_wp2_with (first | (go_at_call 24; refine (unhide c1 _).mono ?_; rintro e w' ⟨rfl, hw⟩; subst hw) | (go_at_call 25; refine (unhide c2 _).mono ?_; rintro e w' ⟨rfl, hw⟩; subst hw))
  exact bodyPost_ret (v := wV amt' ⟨#[]⟩ false) (by simp [results, Tryz.results19, go_sem]) rfl ⟨rfl, by repeat (first | exact Below.refl _ _ | refine Below.alloc ?_ (by simp <;> omega) _)⟩
theorem rf7ny {i0 i1 i3 amt' : Int} {s4 acc s7 s8 : ByteArray} {y m d k : Nat} (ha : amt amt' = false) (hd : Dat y m d k) (w : World) : Calls Tryz.prog 19 #[.int .i64 7, .agg #[.int .i64 i0, .int .i64 i1, .int .i64 k, .int .i64 i3, .string s4, .string acc, .int .i64 amt', .string s7, .string s8]] w fun e w' => e = .returned (wV 0 ⟨#[]⟩ true) ∧ Below w.heap.size w w' := by
  have c1 := hide (rnum_no ha)
  have c2 := hide (fun w => rto_ok y m d k w hd)
  have hy : (y : Int) ≤ 9999 := by have := hd.y2; omega
  have hy0 : (0 : Int) ≤ (y : Int) := by omega
  have hm : (m : Int) ≤ 12 := by have := hd.m2; omega
  have hm0 : (0 : Int) ≤ (m : Int) := by omega
  clear ha hd
  go_enter Tryz.func19, Tryz.ntmps19
  go_wp2_with (first | (go_at_call 24; refine (unhide c1 _).mono ?_; rintro e w' ⟨rfl, hw⟩; subst hw) | (go_at_call 25; refine (unhide c2 _).mono ?_; rintro e w' ⟨rfl, hw⟩; subst hw))
  exact bodyPost_ret (v := wV 0 ⟨#[]⟩ true) (by simp [results, Tryz.results19, go_sem]) rfl ⟨rfl, by repeat (first | exact Below.refl _ _ | refine Below.alloc ?_ (by simp <;> omega) _)⟩
theorem rf7nn {i0 i1 i3 amt' : Int} {s4 acc s7 s8 : ByteArray} {i2 : Int} (ha : amt amt' = false) (hd : i2 < 1 ∨ 1 ≤ i2 ∧ 3652059 < i2) (w : World) : Calls Tryz.prog 19 #[.int .i64 7, .agg #[.int .i64 i0, .int .i64 i1, .int .i64 i2, .int .i64 i3, .string s4, .string acc, .int .i64 amt', .string s7, .string s8]] w fun e w' => e = .returned (wV 0 ⟨#[]⟩ true) ∧ Below w.heap.size w w' := by
  have c1 := hide (rnum_no ha)
  have c2 := hide (fun w => rto_bad i2 w hd)
  clear ha hd
  go_enter Tryz.func19, Tryz.ntmps19
  go_wp2_with (first | (go_at_call 24; refine (unhide c1 _).mono ?_; rintro e w' ⟨rfl, hw⟩; subst hw) | (go_at_call 25; refine (unhide c2 _).mono ?_; rintro e w' ⟨rfl, hw⟩; subst hw))
  exact bodyPost_ret (v := wV 0 ⟨#[]⟩ true) (by simp [results, Tryz.results19, go_sem]) rfl ⟨rfl, by repeat (first | exact Below.refl _ _ | refine Below.alloc ?_ (by simp <;> omega) _)⟩
theorem rf8yy {i0 i1 i3 amt' : Int} {s4 acc s7 s8 : ByteArray} {y m d k : Nat} (ha : amt amt' = true) (hd : Dat y m d k) (w : World) : Calls Tryz.prog 19 #[.int .i64 8, .agg #[.int .i64 i0, .int .i64 i1, .int .i64 k, .int .i64 i3, .string s4, .string acc, .int .i64 amt', .string s7, .string s8]] w fun e w' => e = .returned (wV (max amt' 0) ⟨#[]⟩ false) ∧ Below w.heap.size w w' := by
  have c1 := hide (rnum_yes ha)
  have c2 := hide (fun w => rto_ok y m d k w hd)
  have hy : (y : Int) ≤ 9999 := by have := hd.y2; omega
  have hy0 : (0 : Int) ≤ (y : Int) := by omega
  have hm : (m : Int) ≤ 12 := by have := hd.m2; omega
  have hm0 : (0 : Int) ≤ (m : Int) := by omega
  clear ha hd
  go_enter Tryz.func19, Tryz.ntmps19
  go_wp2_with (first | (go_at_call 24; refine (unhide c1 _).mono ?_; rintro e w' ⟨rfl, hw⟩; subst hw) | (go_at_call 25; refine (unhide c2 _).mono ?_; rintro e w' ⟨rfl, hw⟩; subst hw))
  exact bodyPost_ret (v := wV (max amt' 0) ⟨#[]⟩ false) (by simp [results, Tryz.results19, go_sem]) rfl ⟨rfl, by repeat (first | exact Below.refl _ _ | refine Below.alloc ?_ (by simp <;> omega) _)⟩
theorem rf8yn {i0 i1 i3 amt' : Int} {s4 acc s7 s8 : ByteArray} {i2 : Int} (ha : amt amt' = true) (hd : i2 < 1 ∨ 1 ≤ i2 ∧ 3652059 < i2) (w : World) : Calls Tryz.prog 19 #[.int .i64 8, .agg #[.int .i64 i0, .int .i64 i1, .int .i64 i2, .int .i64 i3, .string s4, .string acc, .int .i64 amt', .string s7, .string s8]] w fun e w' => e = .returned (wV (max amt' 0) ⟨#[]⟩ false) ∧ Below w.heap.size w w' := by
  have c1 := hide (rnum_yes ha)
  have c2 := hide (fun w => rto_bad i2 w hd)
  clear ha hd
  go_enter Tryz.func19, Tryz.ntmps19
  go_wp2_with (first | (go_at_call 24; refine (unhide c1 _).mono ?_; rintro e w' ⟨rfl, hw⟩; subst hw) | (go_at_call 25; refine (unhide c2 _).mono ?_; rintro e w' ⟨rfl, hw⟩; subst hw))
  exact bodyPost_ret (v := wV (max amt' 0) ⟨#[]⟩ false) (by simp [results, Tryz.results19, go_sem]) rfl ⟨rfl, by repeat (first | exact Below.refl _ _ | refine Below.alloc ?_ (by simp <;> omega) _)⟩
theorem rf8ny {i0 i1 i3 amt' : Int} {s4 acc s7 s8 : ByteArray} {y m d k : Nat} (ha : amt amt' = false) (hd : Dat y m d k) (w : World) : Calls Tryz.prog 19 #[.int .i64 8, .agg #[.int .i64 i0, .int .i64 i1, .int .i64 k, .int .i64 i3, .string s4, .string acc, .int .i64 amt', .string s7, .string s8]] w fun e w' => e = .returned (wV 0 ⟨#[]⟩ true) ∧ Below w.heap.size w w' := by
  have c1 := hide (rnum_no ha)
  have c2 := hide (fun w => rto_ok y m d k w hd)
  have hy : (y : Int) ≤ 9999 := by have := hd.y2; omega
  have hy0 : (0 : Int) ≤ (y : Int) := by omega
  have hm : (m : Int) ≤ 12 := by have := hd.m2; omega
  have hm0 : (0 : Int) ≤ (m : Int) := by omega
  clear ha hd
  go_enter Tryz.func19, Tryz.ntmps19
  go_wp2_with (first | (go_at_call 24; refine (unhide c1 _).mono ?_; rintro e w' ⟨rfl, hw⟩; subst hw) | (go_at_call 25; refine (unhide c2 _).mono ?_; rintro e w' ⟨rfl, hw⟩; subst hw))
  exact bodyPost_ret (v := wV 0 ⟨#[]⟩ true) (by simp [results, Tryz.results19, go_sem]) rfl ⟨rfl, by repeat (first | exact Below.refl _ _ | refine Below.alloc ?_ (by simp <;> omega) _)⟩
theorem rf8nn {i0 i1 i3 amt' : Int} {s4 acc s7 s8 : ByteArray} {i2 : Int} (ha : amt amt' = false) (hd : i2 < 1 ∨ 1 ≤ i2 ∧ 3652059 < i2) (w : World) : Calls Tryz.prog 19 #[.int .i64 8, .agg #[.int .i64 i0, .int .i64 i1, .int .i64 i2, .int .i64 i3, .string s4, .string acc, .int .i64 amt', .string s7, .string s8]] w fun e w' => e = .returned (wV 0 ⟨#[]⟩ true) ∧ Below w.heap.size w w' := by
  have c1 := hide (rnum_no ha)
  have c2 := hide (fun w => rto_bad i2 w hd)
  clear ha hd
  go_enter Tryz.func19, Tryz.ntmps19
  go_wp2_with (first | (go_at_call 24; refine (unhide c1 _).mono ?_; rintro e w' ⟨rfl, hw⟩; subst hw) | (go_at_call 25; refine (unhide c2 _).mono ?_; rintro e w' ⟨rfl, hw⟩; subst hw))
  exact bodyPost_ret (v := wV 0 ⟨#[]⟩ true) (by simp [results, Tryz.results19, go_sem]) rfl ⟨rfl, by repeat (first | exact Below.refl _ _ | refine Below.alloc ?_ (by simp <;> omega) _)⟩
theorem rf9yy {i0 i1 i3 amt' : Int} {s4 acc s7 s8 : ByteArray} {y m d k : Nat} (ha : amt amt' = true) (hd : Dat y m d k) (w : World) : Calls Tryz.prog 19 #[.int .i64 9, .agg #[.int .i64 i0, .int .i64 i1, .int .i64 k, .int .i64 i3, .string s4, .string acc, .int .i64 amt', .string s7, .string s8]] w fun e w' => e = .returned (wV (max (wrap64 (-amt')) 0) ⟨#[]⟩ false) ∧ Below w.heap.size w w' := by
  have c1 := hide (rnum_yes ha)
  have c2 := hide (fun w => rto_ok y m d k w hd)
  have hy : (y : Int) ≤ 9999 := by have := hd.y2; omega
  have hy0 : (0 : Int) ≤ (y : Int) := by omega
  have hm : (m : Int) ≤ 12 := by have := hd.m2; omega
  have hm0 : (0 : Int) ≤ (m : Int) := by omega
  clear ha hd
  go_enter Tryz.func19, Tryz.ntmps19
  go_wp2_with (first | (go_at_call 24; refine (unhide c1 _).mono ?_; rintro e w' ⟨rfl, hw⟩; subst hw) | (go_at_call 25; refine (unhide c2 _).mono ?_; rintro e w' ⟨rfl, hw⟩; subst hw))
  exact bodyPost_ret (v := wV (max (wrap64 (-amt')) 0) ⟨#[]⟩ false) (by simp [results, Tryz.results19, go_sem]) rfl ⟨rfl, by repeat (first | exact Below.refl _ _ | refine Below.alloc ?_ (by simp <;> omega) _)⟩
theorem rf9yn {i0 i1 i3 amt' : Int} {s4 acc s7 s8 : ByteArray} {i2 : Int} (ha : amt amt' = true) (hd : i2 < 1 ∨ 1 ≤ i2 ∧ 3652059 < i2) (w : World) : Calls Tryz.prog 19 #[.int .i64 9, .agg #[.int .i64 i0, .int .i64 i1, .int .i64 i2, .int .i64 i3, .string s4, .string acc, .int .i64 amt', .string s7, .string s8]] w fun e w' => e = .returned (wV (max (wrap64 (-amt')) 0) ⟨#[]⟩ false) ∧ Below w.heap.size w w' := by
  have c1 := hide (rnum_yes ha)
  have c2 := hide (fun w => rto_bad i2 w hd)
  clear ha hd
  go_enter Tryz.func19, Tryz.ntmps19
  go_wp2_with (first | (go_at_call 24; refine (unhide c1 _).mono ?_; rintro e w' ⟨rfl, hw⟩; subst hw) | (go_at_call 25; refine (unhide c2 _).mono ?_; rintro e w' ⟨rfl, hw⟩; subst hw))
  exact bodyPost_ret (v := wV (max (wrap64 (-amt')) 0) ⟨#[]⟩ false) (by simp [results, Tryz.results19, go_sem]) rfl ⟨rfl, by repeat (first | exact Below.refl _ _ | refine Below.alloc ?_ (by simp <;> omega) _)⟩
theorem rf9ny {i0 i1 i3 amt' : Int} {s4 acc s7 s8 : ByteArray} {y m d k : Nat} (ha : amt amt' = false) (hd : Dat y m d k) (w : World) : Calls Tryz.prog 19 #[.int .i64 9, .agg #[.int .i64 i0, .int .i64 i1, .int .i64 k, .int .i64 i3, .string s4, .string acc, .int .i64 amt', .string s7, .string s8]] w fun e w' => e = .returned (wV 0 ⟨#[]⟩ true) ∧ Below w.heap.size w w' := by
  have c1 := hide (rnum_no ha)
  have c2 := hide (fun w => rto_ok y m d k w hd)
  have hy : (y : Int) ≤ 9999 := by have := hd.y2; omega
  have hy0 : (0 : Int) ≤ (y : Int) := by omega
  have hm : (m : Int) ≤ 12 := by have := hd.m2; omega
  have hm0 : (0 : Int) ≤ (m : Int) := by omega
  clear ha hd
  go_enter Tryz.func19, Tryz.ntmps19
  go_wp2_with (first | (go_at_call 24; refine (unhide c1 _).mono ?_; rintro e w' ⟨rfl, hw⟩; subst hw) | (go_at_call 25; refine (unhide c2 _).mono ?_; rintro e w' ⟨rfl, hw⟩; subst hw))
  exact bodyPost_ret (v := wV 0 ⟨#[]⟩ true) (by simp [results, Tryz.results19, go_sem]) rfl ⟨rfl, by repeat (first | exact Below.refl _ _ | refine Below.alloc ?_ (by simp <;> omega) _)⟩
theorem rf9nn {i0 i1 i3 amt' : Int} {s4 acc s7 s8 : ByteArray} {i2 : Int} (ha : amt amt' = false) (hd : i2 < 1 ∨ 1 ≤ i2 ∧ 3652059 < i2) (w : World) : Calls Tryz.prog 19 #[.int .i64 9, .agg #[.int .i64 i0, .int .i64 i1, .int .i64 i2, .int .i64 i3, .string s4, .string acc, .int .i64 amt', .string s7, .string s8]] w fun e w' => e = .returned (wV 0 ⟨#[]⟩ true) ∧ Below w.heap.size w w' := by
  have c1 := hide (rnum_no ha)
  have c2 := hide (fun w => rto_bad i2 w hd)
  clear ha hd
  go_enter Tryz.func19, Tryz.ntmps19
  go_wp2_with (first | (go_at_call 24; refine (unhide c1 _).mono ?_; rintro e w' ⟨rfl, hw⟩; subst hw) | (go_at_call 25; refine (unhide c2 _).mono ?_; rintro e w' ⟨rfl, hw⟩; subst hw))
  exact bodyPost_ret (v := wV 0 ⟨#[]⟩ true) (by simp [results, Tryz.results19, go_sem]) rfl ⟨rfl, by repeat (first | exact Below.refl _ _ | refine Below.alloc ?_ (by simp <;> omega) _)⟩
end Go.Proofs.YtbenciieenbmeaaGreatDoor
