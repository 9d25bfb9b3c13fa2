import Derived.Test.YtbenciieenbmeaaGreatDoorX02
/- the document's field (19), case by case. -/
namespace Go.Proofs.YtbenciieenbmeaaGreatDoor
open Go Go.Shelf Go.ChangeShapes Go.WideShapes Go.ChangeAt Go.RowKit Go.Maps
set_option linter.unusedVariables false
set_option maxRecDepth 100000
set_option maxHeartbeats 2000000
theorem rf10yy {i0 i1 i3 amt' : Int} {s4 acc s7 s8 : ByteArray} {y m d k : Nat} (ha : amt amt' = true) (hd : Dat y m d k) (w : World) : Calls Tryz.prog 19 #[.int .i64 10, .agg #[.int .i64 i0, .int .i64 i1, .int .i64 k, .int .i64 i3, .string s4, .string acc, .int .i64 amt', .string s7, .string s8]] w fun e w' => e = .returned (wV 0 s7 false) ∧ Below w.heap.size w w' := by
  have c1 := hide (rnum_yes ha)
  have c2 := hide (fun w => rto_ok y m d k w hd)
  have hy : (y : Int) ≤ 9999 := by have := hd.y2; omega
  have hy0 : (0 : Int) ≤ (y : Int) := by omega
  have hm : (m : Int) ≤ 12 := by have := hd.m2; omega
  have hm0 : (0 : Int) ≤ (m : Int) := by omega
  clear ha hd
  go_enter Tryz.func19, Tryz.ntmps19
  go_wp2_with (first | (go_at_call 24; refine (unhide c1 _).mono ?_; rintro e w' ⟨rfl, hw⟩; subst hw) | (go_at_call 25; refine (unhide c2 _).mono ?_; rintro e w' ⟨rfl, hw⟩; subst hw))
  exact bodyPost_ret (v := wV 0 s7 false) (by simp [results, Tryz.results19, go_sem]) rfl ⟨rfl, by repeat (first | exact Below.refl _ _ | refine Below.alloc ?_ (by simp <;> omega) _)⟩
theorem rf10yn {i0 i1 i3 amt' : Int} {s4 acc s7 s8 : ByteArray} {i2 : Int} (ha : amt amt' = true) (hd : i2 < 1 ∨ 1 ≤ i2 ∧ 3652059 < i2) (w : World) : Calls Tryz.prog 19 #[.int .i64 10, .agg #[.int .i64 i0, .int .i64 i1, .int .i64 i2, .int .i64 i3, .string s4, .string acc, .int .i64 amt', .string s7, .string s8]] w fun e w' => e = .returned (wV 0 s7 false) ∧ Below w.heap.size w w' := by
  have c1 := hide (rnum_yes ha)
  have c2 := hide (fun w => rto_bad i2 w hd)
  clear ha hd
  go_enter Tryz.func19, Tryz.ntmps19
  go_wp2_with (first | (go_at_call 24; refine (unhide c1 _).mono ?_; rintro e w' ⟨rfl, hw⟩; subst hw) | (go_at_call 25; refine (unhide c2 _).mono ?_; rintro e w' ⟨rfl, hw⟩; subst hw))
  exact bodyPost_ret (v := wV 0 s7 false) (by simp [results, Tryz.results19, go_sem]) rfl ⟨rfl, by repeat (first | exact Below.refl _ _ | refine Below.alloc ?_ (by simp <;> omega) _)⟩
theorem rf10ny {i0 i1 i3 amt' : Int} {s4 acc s7 s8 : ByteArray} {y m d k : Nat} (ha : amt amt' = false) (hd : Dat y m d k) (w : World) : Calls Tryz.prog 19 #[.int .i64 10, .agg #[.int .i64 i0, .int .i64 i1, .int .i64 k, .int .i64 i3, .string s4, .string acc, .int .i64 amt', .string s7, .string s8]] w fun e w' => e = .returned (wV 0 s7 false) ∧ Below w.heap.size w w' := by
  have c1 := hide (rnum_no ha)
  have c2 := hide (fun w => rto_ok y m d k w hd)
  have hy : (y : Int) ≤ 9999 := by have := hd.y2; omega
  have hy0 : (0 : Int) ≤ (y : Int) := by omega
  have hm : (m : Int) ≤ 12 := by have := hd.m2; omega
  have hm0 : (0 : Int) ≤ (m : Int) := by omega
  clear ha hd
  go_enter Tryz.func19, Tryz.ntmps19
  go_wp2_with (first | (go_at_call 24; refine (unhide c1 _).mono ?_; rintro e w' ⟨rfl, hw⟩; subst hw) | (go_at_call 25; refine (unhide c2 _).mono ?_; rintro e w' ⟨rfl, hw⟩; subst hw))
  exact bodyPost_ret (v := wV 0 s7 false) (by simp [results, Tryz.results19, go_sem]) rfl ⟨rfl, by repeat (first | exact Below.refl _ _ | refine Below.alloc ?_ (by simp <;> omega) _)⟩
theorem rf10nn {i0 i1 i3 amt' : Int} {s4 acc s7 s8 : ByteArray} {i2 : Int} (ha : amt amt' = false) (hd : i2 < 1 ∨ 1 ≤ i2 ∧ 3652059 < i2) (w : World) : Calls Tryz.prog 19 #[.int .i64 10, .agg #[.int .i64 i0, .int .i64 i1, .int .i64 i2, .int .i64 i3, .string s4, .string acc, .int .i64 amt', .string s7, .string s8]] w fun e w' => e = .returned (wV 0 s7 false) ∧ Below w.heap.size w w' := by
  have c1 := hide (rnum_no ha)
  have c2 := hide (fun w => rto_bad i2 w hd)
  clear ha hd
  go_enter Tryz.func19, Tryz.ntmps19
  go_wp2_with (first | (go_at_call 24; refine (unhide c1 _).mono ?_; rintro e w' ⟨rfl, hw⟩; subst hw) | (go_at_call 25; refine (unhide c2 _).mono ?_; rintro e w' ⟨rfl, hw⟩; subst hw))
  exact bodyPost_ret (v := wV 0 s7 false) (by simp [results, Tryz.results19, go_sem]) rfl ⟨rfl, by repeat (first | exact Below.refl _ _ | refine Below.alloc ?_ (by simp <;> omega) _)⟩
theorem rf11yy {i0 i1 i3 amt' : Int} {s4 acc s7 s8 : ByteArray} {y m d k : Nat} (ha : amt amt' = true) (hd : Dat y m d k) (w : World) : Calls Tryz.prog 19 #[.int .i64 11, .agg #[.int .i64 i0, .int .i64 i1, .int .i64 k, .int .i64 i3, .string s4, .string acc, .int .i64 amt', .string s7, .string s8]] w fun e w' => e = .returned (wV 0 s8 false) ∧ Below w.heap.size w w' := by
  have c1 := hide (rnum_yes ha)
  have c2 := hide (fun w => rto_ok y m d k w hd)
  have hy : (y : Int) ≤ 9999 := by have := hd.y2; omega
  have hy0 : (0 : Int) ≤ (y : Int) := by omega
  have hm : (m : Int) ≤ 12 := by have := hd.m2; omega
  have hm0 : (0 : Int) ≤ (m : Int) := by omega
  clear ha hd
  go_enter Tryz.func19, Tryz.ntmps19
  go_wp2_with (first | (go_at_call 24; refine (unhide c1 _).mono ?_; rintro e w' ⟨rfl, hw⟩; subst hw) | (go_at_call 25; refine (unhide c2 _).mono ?_; rintro e w' ⟨rfl, hw⟩; subst hw))
  exact bodyPost_ret (v := wV 0 s8 false) (by simp [results, Tryz.results19, go_sem]) rfl ⟨rfl, by repeat (first | exact Below.refl _ _ | refine Below.alloc ?_ (by simp <;> omega) _)⟩
theorem rf11yn {i0 i1 i3 amt' : Int} {s4 acc s7 s8 : ByteArray} {i2 : Int} (ha : amt amt' = true) (hd : i2 < 1 ∨ 1 ≤ i2 ∧ 3652059 < i2) (w : World) : Calls Tryz.prog 19 #[.int .i64 11, .agg #[.int .i64 i0, .int .i64 i1, .int .i64 i2, .int .i64 i3, .string s4, .string acc, .int .i64 amt', .string s7, .string s8]] w fun e w' => e = .returned (wV 0 s8 false) ∧ Below w.heap.size w w' := by
  have c1 := hide (rnum_yes ha)
  have c2 := hide (fun w => rto_bad i2 w hd)
  clear ha hd
  go_enter Tryz.func19, Tryz.ntmps19
  go_wp2_with (first | (go_at_call 24; refine (unhide c1 _).mono ?_; rintro e w' ⟨rfl, hw⟩; subst hw) | (go_at_call 25; refine (unhide c2 _).mono ?_; rintro e w' ⟨rfl, hw⟩; subst hw))
  exact bodyPost_ret (v := wV 0 s8 false) (by simp [results, Tryz.results19, go_sem]) rfl ⟨rfl, by repeat (first | exact Below.refl _ _ | refine Below.alloc ?_ (by simp <;> omega) _)⟩
theorem rf11ny {i0 i1 i3 amt' : Int} {s4 acc s7 s8 : ByteArray} {y m d k : Nat} (ha : amt amt' = false) (hd : Dat y m d k) (w : World) : Calls Tryz.prog 19 #[.int .i64 11, .agg #[.int .i64 i0, .int .i64 i1, .int .i64 k, .int .i64 i3, .string s4, .string acc, .int .i64 amt', .string s7, .string s8]] w fun e w' => e = .returned (wV 0 s8 false) ∧ Below w.heap.size w w' := by
  have c1 := hide (rnum_no ha)
  have c2 := hide (fun w => rto_ok y m d k w hd)
  have hy : (y : Int) ≤ 9999 := by have := hd.y2; omega
  have hy0 : (0 : Int) ≤ (y : Int) := by omega
  have hm : (m : Int) ≤ 12 := by have := hd.m2; omega
  have hm0 : (0 : Int) ≤ (m : Int) := by omega
  clear ha hd
  go_enter Tryz.func19, Tryz.ntmps19
  go_wp2_with (first | (go_at_call 24; refine (unhide c1 _).mono ?_; rintro e w' ⟨rfl, hw⟩; subst hw) | (go_at_call 25; refine (unhide c2 _).mono ?_; rintro e w' ⟨rfl, hw⟩; subst hw))
  exact bodyPost_ret (v := wV 0 s8 false) (by simp [results, Tryz.results19, go_sem]) rfl ⟨rfl, by repeat (first | exact Below.refl _ _ | refine Below.alloc ?_ (by simp <;> omega) _)⟩
theorem rf11nn {i0 i1 i3 amt' : Int} {s4 acc s7 s8 : ByteArray} {i2 : Int} (ha : amt amt' = false) (hd : i2 < 1 ∨ 1 ≤ i2 ∧ 3652059 < i2) (w : World) : Calls Tryz.prog 19 #[.int .i64 11, .agg #[.int .i64 i0, .int .i64 i1, .int .i64 i2, .int .i64 i3, .string s4, .string acc, .int .i64 amt', .string s7, .string s8]] w fun e w' => e = .returned (wV 0 s8 false) ∧ Below w.heap.size w w' := by
  have c1 := hide (rnum_no ha)
  have c2 := hide (fun w => rto_bad i2 w hd)
  clear ha hd
  go_enter Tryz.func19, Tryz.ntmps19
  go_wp2_with (first | (go_at_call 24; refine (unhide c1 _).mono ?_; rintro e w' ⟨rfl, hw⟩; subst hw) | (go_at_call 25; refine (unhide c2 _).mono ?_; rintro e w' ⟨rfl, hw⟩; subst hw))
  exact bodyPost_ret (v := wV 0 s8 false) (by simp [results, Tryz.results19, go_sem]) rfl ⟨rfl, by repeat (first | exact Below.refl _ _ | refine Below.alloc ?_ (by simp <;> omega) _)⟩
theorem rf12yy {i0 i1 i3 amt' : Int} {s4 acc s7 s8 : ByteArray} {y m d k : Nat} (ha : amt amt' = true) (hd : Dat y m d k) (w : World) : Calls Tryz.prog 19 #[.int .i64 12, .agg #[.int .i64 i0, .int .i64 i1, .int .i64 k, .int .i64 i3, .string s4, .string acc, .int .i64 amt', .string s7, .string s8]] w fun e w' => e = .returned (wV (100 * (y : Int) + m) ⟨#[]⟩ false) ∧ Below w.heap.size w w' := by
  have c1 := hide (rnum_yes ha)
  have c2 := hide (fun w => rto_ok y m d k w hd)
  have hy : (y : Int) ≤ 9999 := by have := hd.y2; omega
  have hy0 : (0 : Int) ≤ (y : Int) := by omega
  have hm : (m : Int) ≤ 12 := by have := hd.m2; omega
  have hm0 : (0 : Int) ≤ (m : Int) := by omega
  clear ha hd
  go_enter Tryz.func19, Tryz.ntmps19
  go_wp2_with (first | (go_at_call 24; refine (unhide c1 _).mono ?_; rintro e w' ⟨rfl, hw⟩; subst hw) | (go_at_call 25; refine (unhide c2 _).mono ?_; rintro e w' ⟨rfl, hw⟩; subst hw))
  exact bodyPost_ret (v := wV (100 * (y : Int) + m) ⟨#[]⟩ false) (by simp [results, Tryz.results19, go_sem]) rfl ⟨rfl, by repeat (first | exact Below.refl _ _ | refine Below.alloc ?_ (by simp <;> omega) _)⟩
theorem rf12yn {i0 i1 i3 amt' : Int} {s4 acc s7 s8 : ByteArray} {i2 : Int} (ha : amt amt' = true) (hd : i2 < 1 ∨ 1 ≤ i2 ∧ 3652059 < i2) (w : World) : Calls Tryz.prog 19 #[.int .i64 12, .agg #[.int .i64 i0, .int .i64 i1, .int .i64 i2, .int .i64 i3, .string s4, .string acc, .int .i64 amt', .string s7, .string s8]] w fun e w' => e = .returned (wV 0 ⟨#[]⟩ true) ∧ Below w.heap.size w w' := by
  have c1 := hide (rnum_yes ha)
  have c2 := hide (fun w => rto_bad i2 w hd)
  have c3 := hide rover_any
  clear ha hd
  go_enter Tryz.func19, Tryz.ntmps19
  go_wp2_with (first | (go_at_call 24; refine (unhide c1 _).mono ?_; rintro e w' ⟨rfl, hw⟩; subst hw) | (go_at_call 25; refine (unhide c2 _).mono ?_; rintro e w' ⟨rfl, hw⟩; subst hw) | (go_at_call 27; refine (unhide c3 _).mono ?_; rintro e w' ⟨rfl, hw⟩; subst hw))
  exact bodyPost_ret (v := wV 0 ⟨#[]⟩ true) (by simp [results, Tryz.results19, go_sem]) rfl ⟨rfl, by repeat (first | exact Below.refl _ _ | refine Below.alloc ?_ (by simp <;> omega) _)⟩
theorem rf12ny {i0 i1 i3 amt' : Int} {s4 acc s7 s8 : ByteArray} {y m d k : Nat} (ha : amt amt' = false) (hd : Dat y m d k) (w : World) : Calls Tryz.prog 19 #[.int .i64 12, .agg #[.int .i64 i0, .int .i64 i1, .int .i64 k, .int .i64 i3, .string s4, .string acc, .int .i64 amt', .string s7, .string s8]] w fun e w' => e = .returned (wV (100 * (y : Int) + m) ⟨#[]⟩ false) ∧ Below w.heap.size w w' := by
  have c1 := hide (rnum_no ha)
  have c2 := hide (fun w => rto_ok y m d k w hd)
  have hy : (y : Int) ≤ 9999 := by have := hd.y2; omega
  have hy0 : (0 : Int) ≤ (y : Int) := by omega
  have hm : (m : Int) ≤ 12 := by have := hd.m2; omega
  have hm0 : (0 : Int) ≤ (m : Int) := by omega
  clear ha hd
  go_enter Tryz.func19, Tryz.ntmps19
  go_wp2_with (first | (go_at_call 24; refine (unhide c1 _).mono ?_; rintro e w' ⟨rfl, hw⟩; subst hw) | (go_at_call 25; refine (unhide c2 _).mono ?_; rintro e w' ⟨rfl, hw⟩; subst hw))
  exact bodyPost_ret (v := wV (100 * (y : Int) + m) ⟨#[]⟩ false) (by simp [results, Tryz.results19, go_sem]) rfl ⟨rfl, by repeat (first | exact Below.refl _ _ | refine Below.alloc ?_ (by simp <;> omega) _)⟩
theorem rf12nn {i0 i1 i3 amt' : Int} {s4 acc s7 s8 : ByteArray} {i2 : Int} (ha : amt amt' = false) (hd : i2 < 1 ∨ 1 ≤ i2 ∧ 3652059 < i2) (w : World) : Calls Tryz.prog 19 #[.int .i64 12, .agg #[.int .i64 i0, .int .i64 i1, .int .i64 i2, .int .i64 i3, .string s4, .string acc, .int .i64 amt', .string s7, .string s8]] w fun e w' => e = .returned (wV 0 ⟨#[]⟩ true) ∧ Below w.heap.size w w' := by
  have c1 := hide (rnum_no ha)
  have c2 := hide (fun w => rto_bad i2 w hd)
  have c3 := hide rover_any
  clear ha hd
  go_enter Tryz.func19, Tryz.ntmps19
  go_wp2_with (first | (go_at_call 24; refine (unhide c1 _).mono ?_; rintro e w' ⟨rfl, hw⟩; subst hw) | (go_at_call 25; refine (unhide c2 _).mono ?_; rintro e w' ⟨rfl, hw⟩; subst hw) | (go_at_call 27; refine (unhide c3 _).mono ?_; rintro e w' ⟨rfl, hw⟩; subst hw))
  exact bodyPost_ret (v := wV 0 ⟨#[]⟩ true) (by simp [results, Tryz.results19, go_sem]) rfl ⟨rfl, by repeat (first | exact Below.refl _ _ | refine Below.alloc ?_ (by simp <;> omega) _)⟩
theorem rf13yy {i0 i1 i3 amt' : Int} {s4 acc s7 s8 : ByteArray} {y m d k : Nat} (ha : amt amt' = true) (hd : Dat y m d k) (w : World) : Calls Tryz.prog 19 #[.int .i64 13, .agg #[.int .i64 i0, .int .i64 i1, .int .i64 k, .int .i64 i3, .string s4, .string acc, .int .i64 amt', .string s7, .string s8]] w fun e w' => e = .returned (wV y ⟨#[]⟩ false) ∧ Below w.heap.size w w' := by
  have c1 := hide (rnum_yes ha)
  have c2 := hide (fun w => rto_ok y m d k w hd)
  have hy : (y : Int) ≤ 9999 := by have := hd.y2; omega
  have hy0 : (0 : Int) ≤ (y : Int) := by omega
  have hm : (m : Int) ≤ 12 := by have := hd.m2; omega
  have hm0 : (0 : Int) ≤ (m : Int) := by omega
  clear ha hd
  go_enter Tryz.func19, Tryz.ntmps19
  go_wp2_with (first | (go_at_call 24; refine (unhide c1 _).mono ?_; rintro e w' ⟨rfl, hw⟩; subst hw) | (go_at_call 25; refine (unhide c2 _).mono ?_; rintro e w' ⟨rfl, hw⟩; subst hw))
  exact bodyPost_ret (v := wV y ⟨#[]⟩ false) (by simp [results, Tryz.results19, go_sem]) rfl ⟨rfl, by repeat (first | exact Below.refl _ _ | refine Below.alloc ?_ (by simp <;> omega) _)⟩
theorem rf13yn {i0 i1 i3 amt' : Int} {s4 acc s7 s8 : ByteArray} {i2 : Int} (ha : amt amt' = true) (hd : i2 < 1 ∨ 1 ≤ i2 ∧ 3652059 < i2) (w : World) : Calls Tryz.prog 19 #[.int .i64 13, .agg #[.int .i64 i0, .int .i64 i1, .int .i64 i2, .int .i64 i3, .string s4, .string acc, .int .i64 amt', .string s7, .string s8]] w fun e w' => e = .returned (wV 0 ⟨#[]⟩ true) ∧ Below w.heap.size w w' := by
  have c1 := hide (rnum_yes ha)
  have c2 := hide (fun w => rto_bad i2 w hd)
  have c3 := hide rover_any
  clear ha hd
  go_enter Tryz.func19, Tryz.ntmps19
  go_wp2_with (first | (go_at_call 24; refine (unhide c1 _).mono ?_; rintro e w' ⟨rfl, hw⟩; subst hw) | (go_at_call 25; refine (unhide c2 _).mono ?_; rintro e w' ⟨rfl, hw⟩; subst hw) | (go_at_call 27; refine (unhide c3 _).mono ?_; rintro e w' ⟨rfl, hw⟩; subst hw))
  exact bodyPost_ret (v := wV 0 ⟨#[]⟩ true) (by simp [results, Tryz.results19, go_sem]) rfl ⟨rfl, by repeat (first | exact Below.refl _ _ | refine Below.alloc ?_ (by simp <;> omega) _)⟩
theorem rf13ny {i0 i1 i3 amt' : Int} {s4 acc s7 s8 : ByteArray} {y m d k : Nat} (ha : amt amt' = false) (hd : Dat y m d k) (w : World) : Calls Tryz.prog 19 #[.int .i64 13, .agg #[.int .i64 i0, .int .i64 i1, .int .i64 k, .int .i64 i3, .string s4, .string acc, .int .i64 amt', .string s7, .string s8]] w fun e w' => e = .returned (wV y ⟨#[]⟩ false) ∧ Below w.heap.size w w' := by
  have c1 := hide (rnum_no ha)
  have c2 := hide (fun w => rto_ok y m d k w hd)
  have hy : (y : Int) ≤ 9999 := by have := hd.y2; omega
  have hy0 : (0 : Int) ≤ (y : Int) := by omega
  have hm : (m : Int) ≤ 12 := by have := hd.m2; omega
  have hm0 : (0 : Int) ≤ (m : Int) := by omega
  clear ha hd
  go_enter Tryz.func19, Tryz.ntmps19
  go_wp2_with (first | (go_at_call 24; refine (unhide c1 _).mono ?_; rintro e w' ⟨rfl, hw⟩; subst hw) | (go_at_call 25; refine (unhide c2 _).mono ?_; rintro e w' ⟨rfl, hw⟩; subst hw))
  exact bodyPost_ret (v := wV y ⟨#[]⟩ false) (by simp [results, Tryz.results19, go_sem]) rfl ⟨rfl, by repeat (first | exact Below.refl _ _ | refine Below.alloc ?_ (by simp <;> omega) _)⟩
theorem rf13nn {i0 i1 i3 amt' : Int} {s4 acc s7 s8 : ByteArray} {i2 : Int} (ha : amt amt' = false) (hd : i2 < 1 ∨ 1 ≤ i2 ∧ 3652059 < i2) (w : World) : Calls Tryz.prog 19 #[.int .i64 13, .agg #[.int .i64 i0, .int .i64 i1, .int .i64 i2, .int .i64 i3, .string s4, .string acc, .int .i64 amt', .string s7, .string s8]] w fun e w' => e = .returned (wV 0 ⟨#[]⟩ true) ∧ Below w.heap.size w w' := by
  have c1 := hide (rnum_no ha)
  have c2 := hide (fun w => rto_bad i2 w hd)
  have c3 := hide rover_any
  clear ha hd
  go_enter Tryz.func19, Tryz.ntmps19
  go_wp2_with (first | (go_at_call 24; refine (unhide c1 _).mono ?_; rintro e w' ⟨rfl, hw⟩; subst hw) | (go_at_call 25; refine (unhide c2 _).mono ?_; rintro e w' ⟨rfl, hw⟩; subst hw) | (go_at_call 27; refine (unhide c3 _).mono ?_; rintro e w' ⟨rfl, hw⟩; subst hw))
  exact bodyPost_ret (v := wV 0 ⟨#[]⟩ true) (by simp [results, Tryz.results19, go_sem]) rfl ⟨rfl, by repeat (first | exact Below.refl _ _ | refine Below.alloc ?_ (by simp <;> omega) _)⟩
theorem rf14yy {i0 i1 i3 amt' : Int} {s4 acc s7 s8 : ByteArray} {y m d k : Nat} (ha : amt amt' = true) (hd : Dat y m d k) (hr : acc.size < 4611686018427387904) (w : World) : Calls Tryz.prog 19 #[.int .i64 14, .agg #[.int .i64 i0, .int .i64 i1, .int .i64 k, .int .i64 i3, .string s4, .string acc, .int .i64 amt', .string s7, .string s8]] w fun e w' => e = .returned (wV 0 (rootT acc) false) ∧ Below w.heap.size w w' := by
  have c1 := hide (rnum_yes ha)
  have c2 := hide (fun w => rto_ok y m d k w hd)
  have hy : (y : Int) ≤ 9999 := by have := hd.y2; omega
  have hy0 : (0 : Int) ≤ (y : Int) := by omega
  have hm : (m : Int) ≤ 12 := by have := hd.m2; omega
  have hm0 : (0 : Int) ≤ (m : Int) := by omega
  have c3 := hide (rroot_any acc hr)
  clear hr
  clear ha hd
  go_enter Tryz.func19, Tryz.ntmps19
  go_wp2_with (first | (go_at_call 24; refine (unhide c1 _).mono ?_; rintro e w' ⟨rfl, hw⟩; subst hw) | (go_at_call 25; refine (unhide c2 _).mono ?_; rintro e w' ⟨rfl, hw⟩; subst hw) | (go_at_call 28; refine (unhide c3 _).mono ?_; rintro e w' ⟨rfl, hw⟩; subst hw))
  exact bodyPost_ret (v := wV 0 (rootT acc) false) (by simp [results, Tryz.results19, go_sem]) rfl ⟨rfl, by repeat (first | exact Below.refl _ _ | refine Below.alloc ?_ (by simp <;> omega) _)⟩
theorem rf14yn {i0 i1 i3 amt' : Int} {s4 acc s7 s8 : ByteArray} {i2 : Int} (ha : amt amt' = true) (hd : i2 < 1 ∨ 1 ≤ i2 ∧ 3652059 < i2) (hr : acc.size < 4611686018427387904) (w : World) : Calls Tryz.prog 19 #[.int .i64 14, .agg #[.int .i64 i0, .int .i64 i1, .int .i64 i2, .int .i64 i3, .string s4, .string acc, .int .i64 amt', .string s7, .string s8]] w fun e w' => e = .returned (wV 0 (rootT acc) false) ∧ Below w.heap.size w w' := by
  have c1 := hide (rnum_yes ha)
  have c2 := hide (fun w => rto_bad i2 w hd)
  have c3 := hide (rroot_any acc hr)
  clear hr
  clear ha hd
  go_enter Tryz.func19, Tryz.ntmps19
  go_wp2_with (first | (go_at_call 24; refine (unhide c1 _).mono ?_; rintro e w' ⟨rfl, hw⟩; subst hw) | (go_at_call 25; refine (unhide c2 _).mono ?_; rintro e w' ⟨rfl, hw⟩; subst hw) | (go_at_call 28; refine (unhide c3 _).mono ?_; rintro e w' ⟨rfl, hw⟩; subst hw))
  exact bodyPost_ret (v := wV 0 (rootT acc) false) (by simp [results, Tryz.results19, go_sem]) rfl ⟨rfl, by repeat (first | exact Below.refl _ _ | refine Below.alloc ?_ (by simp <;> omega) _)⟩
theorem rf14ny {i0 i1 i3 amt' : Int} {s4 acc s7 s8 : ByteArray} {y m d k : Nat} (ha : amt amt' = false) (hd : Dat y m d k) (hr : acc.size < 4611686018427387904) (w : World) : Calls Tryz.prog 19 #[.int .i64 14, .agg #[.int .i64 i0, .int .i64 i1, .int .i64 k, .int .i64 i3, .string s4, .string acc, .int .i64 amt', .string s7, .string s8]] w fun e w' => e = .returned (wV 0 (rootT acc) false) ∧ Below w.heap.size w w' := by
  have c1 := hide (rnum_no ha)
  have c2 := hide (fun w => rto_ok y m d k w hd)
  have hy : (y : Int) ≤ 9999 := by have := hd.y2; omega
  have hy0 : (0 : Int) ≤ (y : Int) := by omega
  have hm : (m : Int) ≤ 12 := by have := hd.m2; omega
  have hm0 : (0 : Int) ≤ (m : Int) := by omega
  have c3 := hide (rroot_any acc hr)
  clear hr
  clear ha hd
  go_enter Tryz.func19, Tryz.ntmps19
  go_wp2_with (first | (go_at_call 24; refine (unhide c1 _).mono ?_; rintro e w' ⟨rfl, hw⟩; subst hw) | (go_at_call 25; refine (unhide c2 _).mono ?_; rintro e w' ⟨rfl, hw⟩; subst hw) | (go_at_call 28; refine (unhide c3 _).mono ?_; rintro e w' ⟨rfl, hw⟩; subst hw))
  exact bodyPost_ret (v := wV 0 (rootT acc) false) (by simp [results, Tryz.results19, go_sem]) rfl ⟨rfl, by repeat (first | exact Below.refl _ _ | refine Below.alloc ?_ (by simp <;> omega) _)⟩
theorem rf14nn {i0 i1 i3 amt' : Int} {s4 acc s7 s8 : ByteArray} {i2 : Int} (ha : amt amt' = false) (hd : i2 < 1 ∨ 1 ≤ i2 ∧ 3652059 < i2) (hr : acc.size < 4611686018427387904) (w : World) : Calls Tryz.prog 19 #[.int .i64 14, .agg #[.int .i64 i0, .int .i64 i1, .int .i64 i2, .int .i64 i3, .string s4, .string acc, .int .i64 amt', .string s7, .string s8]] w fun e w' => e = .returned (wV 0 (rootT acc) false) ∧ Below w.heap.size w w' := by
  have c1 := hide (rnum_no ha)
  have c2 := hide (fun w => rto_bad i2 w hd)
  have c3 := hide (rroot_any acc hr)
  clear hr
  clear ha hd
  go_enter Tryz.func19, Tryz.ntmps19
  go_wp2_with (first | (go_at_call 24; refine (unhide c1 _).mono ?_; rintro e w' ⟨rfl, hw⟩; subst hw) | (go_at_call 25; refine (unhide c2 _).mono ?_; rintro e w' ⟨rfl, hw⟩; subst hw) | (go_at_call 28; refine (unhide c3 _).mono ?_; rintro e w' ⟨rfl, hw⟩; subst hw))
  exact bodyPost_ret (v := wV 0 (rootT acc) false) (by simp [results, Tryz.results19, go_sem]) rfl ⟨rfl, by repeat (first | exact Below.refl _ _ | refine Below.alloc ?_ (by simp <;> omega) _)⟩
end Go.Proofs.YtbenciieenbmeaaGreatDoor
