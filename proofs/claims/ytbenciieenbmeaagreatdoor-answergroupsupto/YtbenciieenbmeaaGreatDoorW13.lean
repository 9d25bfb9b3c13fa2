import Derived.Test.YtbenciieenbmeaaGreatDoorW11
import Derived.Test.YtbenciieenbmeaaGreatDoorW12
/- answer: holds 137, between 124. -/
namespace Go.Proofs.YtbenciieenbmeaaGreatDoor
open Go Go.Shelf Go.ChangeShapes Go.WideShapes Go.ChangeAt Go.RowKit Go.Maps
set_option linter.unusedVariables false
/-- does a relation hold? -/
def holS (op : Int) (l r : Cl) : Bool := if op = 4 then cmpC l r == 0 else if op = 5 then cmpC l r != 0 else if op = 6 then decide (cmpC l r < 0) else if op = 7 then decide (cmpC l r ≤ 0) else if op = 8 then decide (cmpC l r > 0) else if op = 9 then decide (cmpC l r ≥ 0) else if op = 10 then Nm.undS l.tx r.tx else Lib.contains l.tx.data.toList r.tx.data.toList
set_option maxRecDepth 100000
set_option maxHeartbeats 2000000
theorem hol4 (l r : Cl) (w : World) : Calls Tryz.prog 137 #[.int .i64 4, l.val, r.val] w fun e w' => e = .returned (.bool (cmpC l r == 0)) ∧ Below w.heap.size w w' := by
  have d : Hid (∀ w, Calls Tryz.prog 55 #[cV l.ty l.num l.tx, cV r.ty r.num r.tx] w fun e w' => e = .returned (.int .i64 (cmpC l r)) ∧ Below w.heap.size w w') := fun w => (compare_any l r w).mono fun e w' h => ⟨h.1, by rw [h.2]; exact cmpW_below l r w⟩
  have HB : Hid (∀ o o2, Below w.heap.size w ((w.alloc o).alloc o2)) := Below.a2 w
  obtain ⟨c, hc⟩ : ∃ c, c = cmpC l r := ⟨_, rfl⟩
  rw [← hc] at d ⊢
  obtain ⟨t, n, s⟩ := l
  obtain ⟨t2, n2, s2⟩ := r
  clear hc
  simp only at d
  show Calls Tryz.prog 137 #[_, cV t n s, cV t2 n2 s2] w _
  go_enter Tryz.func137, Tryz.ntmps137
  go_wp2_with fail
  refine (unhide d _).mono ?_
  rintro e w1 ⟨rfl, hb⟩
  have HK := hide ((unhide HB _ _).trans (hb.mono (by simp <;> omega)))
  clear hb
  go_wp2_with fail
  go_ret
  exact ⟨rfl, unhide HK⟩
theorem hol5 (l r : Cl) (w : World) : Calls Tryz.prog 137 #[.int .i64 5, l.val, r.val] w fun e w' => e = .returned (.bool (cmpC l r != 0)) ∧ Below w.heap.size w w' := by
  have d : Hid (∀ w, Calls Tryz.prog 55 #[cV l.ty l.num l.tx, cV r.ty r.num r.tx] w fun e w' => e = .returned (.int .i64 (cmpC l r)) ∧ Below w.heap.size w w') := fun w => (compare_any l r w).mono fun e w' h => ⟨h.1, by rw [h.2]; exact cmpW_below l r w⟩
  have HB : Hid (∀ o o2, Below w.heap.size w ((w.alloc o).alloc o2)) := Below.a2 w
  obtain ⟨c, hc⟩ : ∃ c, c = cmpC l r := ⟨_, rfl⟩
  rw [← hc] at d ⊢
  obtain ⟨t, n, s⟩ := l
  obtain ⟨t2, n2, s2⟩ := r
  clear hc
  simp only at d
  show Calls Tryz.prog 137 #[_, cV t n s, cV t2 n2 s2] w _
  go_enter Tryz.func137, Tryz.ntmps137
  go_wp2_with fail
  refine (unhide d _).mono ?_
  rintro e w1 ⟨rfl, hb⟩
  have HK := hide ((unhide HB _ _).trans (hb.mono (by simp <;> omega)))
  clear hb
  go_wp2_with fail
  go_ret
  exact ⟨rfl, unhide HK⟩
theorem hol6 (l r : Cl) (w : World) : Calls Tryz.prog 137 #[.int .i64 6, l.val, r.val] w fun e w' => e = .returned (.bool (decide (cmpC l r < 0))) ∧ Below w.heap.size w w' := by
  have d : Hid (∀ w, Calls Tryz.prog 55 #[cV l.ty l.num l.tx, cV r.ty r.num r.tx] w fun e w' => e = .returned (.int .i64 (cmpC l r)) ∧ Below w.heap.size w w') := fun w => (compare_any l r w).mono fun e w' h => ⟨h.1, by rw [h.2]; exact cmpW_below l r w⟩
  have HB : Hid (∀ o o2, Below w.heap.size w ((w.alloc o).alloc o2)) := Below.a2 w
  obtain ⟨c, hc⟩ : ∃ c, c = cmpC l r := ⟨_, rfl⟩
  rw [← hc] at d ⊢
  obtain ⟨t, n, s⟩ := l
  obtain ⟨t2, n2, s2⟩ := r
  clear hc
  simp only at d
  show Calls Tryz.prog 137 #[_, cV t n s, cV t2 n2 s2] w _
  go_enter Tryz.func137, Tryz.ntmps137
  go_wp2_with fail
  refine (unhide d _).mono ?_
  rintro e w1 ⟨rfl, hb⟩
  have HK := hide ((unhide HB _ _).trans (hb.mono (by simp <;> omega)))
  clear hb
  go_wp2_with fail
  go_ret
  exact ⟨rfl, unhide HK⟩
theorem hol7 (l r : Cl) (w : World) : Calls Tryz.prog 137 #[.int .i64 7, l.val, r.val] w fun e w' => e = .returned (.bool (decide (cmpC l r ≤ 0))) ∧ Below w.heap.size w w' := by
  have d : Hid (∀ w, Calls Tryz.prog 55 #[cV l.ty l.num l.tx, cV r.ty r.num r.tx] w fun e w' => e = .returned (.int .i64 (cmpC l r)) ∧ Below w.heap.size w w') := fun w => (compare_any l r w).mono fun e w' h => ⟨h.1, by rw [h.2]; exact cmpW_below l r w⟩
  have HB : Hid (∀ o o2, Below w.heap.size w ((w.alloc o).alloc o2)) := Below.a2 w
  obtain ⟨c, hc⟩ : ∃ c, c = cmpC l r := ⟨_, rfl⟩
  rw [← hc] at d ⊢
  obtain ⟨t, n, s⟩ := l
  obtain ⟨t2, n2, s2⟩ := r
  clear hc
  simp only at d
  show Calls Tryz.prog 137 #[_, cV t n s, cV t2 n2 s2] w _
  go_enter Tryz.func137, Tryz.ntmps137
  go_wp2_with fail
  refine (unhide d _).mono ?_
  rintro e w1 ⟨rfl, hb⟩
  have HK := hide ((unhide HB _ _).trans (hb.mono (by simp <;> omega)))
  clear hb
  go_wp2_with fail
  go_ret
  exact ⟨rfl, unhide HK⟩
theorem hol8 (l r : Cl) (w : World) : Calls Tryz.prog 137 #[.int .i64 8, l.val, r.val] w fun e w' => e = .returned (.bool (decide (cmpC l r > 0))) ∧ Below w.heap.size w w' := by
  have d : Hid (∀ w, Calls Tryz.prog 55 #[cV l.ty l.num l.tx, cV r.ty r.num r.tx] w fun e w' => e = .returned (.int .i64 (cmpC l r)) ∧ Below w.heap.size w w') := fun w => (compare_any l r w).mono fun e w' h => ⟨h.1, by rw [h.2]; exact cmpW_below l r w⟩
  have HB : Hid (∀ o o2, Below w.heap.size w ((w.alloc o).alloc o2)) := Below.a2 w
  obtain ⟨c, hc⟩ : ∃ c, c = cmpC l r := ⟨_, rfl⟩
  rw [← hc] at d ⊢
  obtain ⟨t, n, s⟩ := l
  obtain ⟨t2, n2, s2⟩ := r
  clear hc
  simp only at d
  show Calls Tryz.prog 137 #[_, cV t n s, cV t2 n2 s2] w _
  go_enter Tryz.func137, Tryz.ntmps137
  go_wp2_with fail
  refine (unhide d _).mono ?_
  rintro e w1 ⟨rfl, hb⟩
  have HK := hide ((unhide HB _ _).trans (hb.mono (by simp <;> omega)))
  clear hb
  go_wp2_with fail
  go_ret
  exact ⟨rfl, unhide HK⟩
theorem hol9 (l r : Cl) (w : World) : Calls Tryz.prog 137 #[.int .i64 9, l.val, r.val] w fun e w' => e = .returned (.bool (decide (cmpC l r ≥ 0))) ∧ Below w.heap.size w w' := by
  have d : Hid (∀ w, Calls Tryz.prog 55 #[cV l.ty l.num l.tx, cV r.ty r.num r.tx] w fun e w' => e = .returned (.int .i64 (cmpC l r)) ∧ Below w.heap.size w w') := fun w => (compare_any l r w).mono fun e w' h => ⟨h.1, by rw [h.2]; exact cmpW_below l r w⟩
  have HB : Hid (∀ o o2, Below w.heap.size w ((w.alloc o).alloc o2)) := Below.a2 w
  obtain ⟨c, hc⟩ : ∃ c, c = cmpC l r := ⟨_, rfl⟩
  rw [← hc] at d ⊢
  obtain ⟨t, n, s⟩ := l
  obtain ⟨t2, n2, s2⟩ := r
  clear hc
  simp only at d
  show Calls Tryz.prog 137 #[_, cV t n s, cV t2 n2 s2] w _
  go_enter Tryz.func137, Tryz.ntmps137
  go_wp2_with fail
  refine (unhide d _).mono ?_
  rintro e w1 ⟨rfl, hb⟩
  have HK := hide ((unhide HB _ _).trans (hb.mono (by simp <;> omega)))
  clear hb
  go_wp2_with fail
  go_ret
  exact ⟨rfl, unhide HK⟩
theorem hol10 (l r : Cl) (w : World) (hs : l.tx.size < 4294967281) : Calls Tryz.prog 137 #[.int .i64 10, l.val, r.val] w fun e w' => e = .returned (.bool (Nm.undS l.tx r.tx)) ∧ Below w.heap.size w w' := by
  have d := hide (Nm.under_any l.tx r.tx (by omega))
  have HB : Hid (∀ o o2, Below w.heap.size w ((w.alloc o).alloc o2)) := Below.a2 w
  obtain ⟨c, hc⟩ : ∃ c, c = Nm.undS l.tx r.tx := ⟨_, rfl⟩
  rw [← hc] at d ⊢
  obtain ⟨t, n, s⟩ := l
  obtain ⟨t2, n2, s2⟩ := r
  clear hc hs
  simp only at d
  show Calls Tryz.prog 137 #[_, cV t n s, cV t2 n2 s2] w _
  go_enter Tryz.func137, Tryz.ntmps137
  go_wp2_with fail
  refine (unhide d _).mono ?_
  rintro e w1 ⟨rfl, hb⟩
  have HK := hide ((unhide HB _ _).trans (hb.mono (by simp <;> omega)))
  clear hb
  go_wp2_with fail
  go_ret
  exact ⟨rfl, unhide HK⟩
theorem holN (op : Int) (h4 : ¬ op = 4) (h5 : ¬ op = 5) (h6 : ¬ op = 6) (h7 : ¬ op = 7) (h8 : ¬ op = 8) (h9 : ¬ op = 9) (h10 : ¬ op = 10) (l r : Cl) (w : World) (hs : l.tx.size < 4294967281) (hM : Mx w) : Calls Tryz.prog 137 #[.int .i64 op, l.val, r.val] w fun e w' => e = .returned (.bool (Lib.contains l.tx.data.toList r.tx.data.toList)) ∧ Below w.heap.size w w' := by
  have d : Hid (∀ o o2, Calls Tryz.prog 146 #[.string l.tx, .string r.tx] ((w.alloc o).alloc o2) fun e w' => e = .returned (.bool (Lib.contains l.tx.data.toList r.tx.data.toList)) ∧ w' = (w.alloc o).alloc o2) := fun o o2 => by
    obtain ⟨_, m, hm⟩ := hM.below (Below.a2 w o o2) hM.1
    exact Tryz.strings_Contains l.tx r.tx m _ hs hm
  have HB : Hid (∀ o o2, Below w.heap.size w ((w.alloc o).alloc o2)) := Below.a2 w
  obtain ⟨c, hc⟩ : ∃ c, c = Lib.contains l.tx.data.toList r.tx.data.toList := ⟨_, rfl⟩
  rw [← hc] at d ⊢
  obtain ⟨t, n, s⟩ := l
  obtain ⟨t2, n2, s2⟩ := r
  have e4 := beqF h4
  have e5 := beqF h5
  have e6 := beqF h6
  have e7 := beqF h7
  have e8 := beqF h8
  have e9 := beqF h9
  have e10 := beqF h10
  clear hc hs hM h4 h5 h6 h7 h8 h9 h10
  simp only at d
  show Calls Tryz.prog 137 #[_, cV t n s, cV t2 n2 s2] w _
  go_enter Tryz.func137, Tryz.ntmps137
  go_wp2_with fail
  refine (unhide d _ _).mono ?_
  rintro e w1 ⟨rfl, rfl⟩
  go_wp2_with fail
  go_ret
  exact ⟨rfl, unhide HB _ _⟩
theorem holds_any (op : Int) (l r : Cl) (w : World) (hs : l.tx.size < 4294967281) (hM : Mx w) : Calls Tryz.prog 137 #[.int .i64 op, l.val, r.val] w fun e w' => e = .returned (.bool (holS op l r)) ∧ Below w.heap.size w w' := by
  unfold holS
  by_cases h4 : op = 4
  · subst h4; exact hol4 l r w
  rw [if_neg h4]
  by_cases h5 : op = 5
  · subst h5; exact hol5 l r w
  rw [if_neg h5]
  by_cases h6 : op = 6
  · subst h6; exact hol6 l r w
  rw [if_neg h6]
  by_cases h7 : op = 7
  · subst h7; exact hol7 l r w
  rw [if_neg h7]
  by_cases h8 : op = 8
  · subst h8; exact hol8 l r w
  rw [if_neg h8]
  by_cases h9 : op = 9
  · subst h9; exact hol9 l r w
  rw [if_neg h9]
  by_cases h10 : op = 10
  · subst h10; exact hol10 l r w hs
  rw [if_neg h10]
  exact holN op h4 h5 h6 h7 h8 h9 h10 l r w hs hM

/-- what the operations are worth that ask for both parts -/
def btwC (op : Int) (l r : Cl) : Cl := if l.ty = 0 ∨ r.ty = 0 then .no else if op = 12 then sumC l r else if op = 13 then difC l r else if op = 14 then mulC l r else tru (holS op l r)
theorem btw0 (op n : Int) (s : ByteArray) (t2 n2 : Int) (s2 : ByteArray) (w : World) : Calls Tryz.prog 124 #[.int .i64 op, cV 0 n s, cV t2 n2 s2] w fun e w' => e = .returned (cV 0 0 ⟨#[]⟩) ∧ Below w.heap.size w w' := by
  have HB : Hid (∀ o o2 o3 o4, Below w.heap.size w ((((w.alloc o).alloc o2).alloc o3).alloc o4)) := Below.a4 w
  have d := hide isOver_ex
  go_enter Tryz.func124, Tryz.ntmps124
  go_wp2_with (first | (go_at_call 78; refine (unhide d _ _ _ _).mono ?_; rintro e w' ⟨rfl, hw⟩; subst hw))
  exact bodyPost_ret (v := cV 0 0 ⟨#[]⟩) (by simp [results, Tryz.results124, go_sem]) rfl ⟨rfl, unhide HB _ _ _ _⟩
theorem btw00 (op t n : Int) (s : ByteArray) (n2 : Int) (s2 : ByteArray) (w : World) (h0 : ¬ t = 0) : Calls Tryz.prog 124 #[.int .i64 op, cV t n s, cV 0 n2 s2] w fun e w' => e = .returned (cV 0 0 ⟨#[]⟩) ∧ Below w.heap.size w w' := by
  have HB : Hid (∀ o o2 o3 o4 o5, Below w.heap.size w (((((w.alloc o).alloc o2).alloc o3).alloc o4).alloc o5)) := Below.a5 w
  have d := hide isOver_ex
  have e0 := beqF h0
  clear h0
  go_enter Tryz.func124, Tryz.ntmps124
  go_wp2_with (first | (go_at_call 78; refine (unhide d _ _ _ _).mono ?_; rintro e w' ⟨rfl, hw⟩; subst hw))
  exact bodyPost_ret (v := cV 0 0 ⟨#[]⟩) (by simp [results, Tryz.results124, go_sem]) rfl ⟨rfl, unhide HB _ _ _ _ _⟩
theorem blk53 (w : World) (o o2 o3 o4 o5 : Obj) : (((((w.alloc o).alloc o2).alloc o3).alloc o4).alloc o5).heap[w.heap.size + 2]? = some o3 := by
  rw [Below.heap_alloc _ _ _ (by simp), Below.heap_alloc _ _ _ (by simp)]; exact blk33 w o o2 o3
section
attribute [local go_sem ↓] stC_is
theorem btw12 (t n : Int) (s : ByteArray) (t2 n2 : Int) (s2 : ByteArray) (w : World) (h0 : ¬ t = 0) (h2 : ¬ t2 = 0) (hn : I64 n) (hn2 : I64 n2) : Calls Tryz.prog 124 #[.int .i64 12, cV t n s, cV t2 n2 s2] w fun e w' => e = .returned (sumC ⟨t, n, s⟩ ⟨t2, n2, s2⟩).val ∧ Below w.heap.size w w' := by
  have d := hide isOver_ex
  have d1 : Hid (∀ w, Calls Tryz.prog 134 #[cV t n s, cV t2 n2 s2] w fun e w' => e = .returned (sumC ⟨t, n, s⟩ ⟨t2, n2, s2⟩).val ∧ Below w.heap.size w w') := fun w => sum_any ⟨t, n, s⟩ ⟨t2, n2, s2⟩ w hn hn2
  have e0 := beqF h0
  have e2 := beqF h2
  clear h0 h2 hn hn2
  go_enter Tryz.func124, Tryz.ntmps124
  go_wp2_with (first | (go_at_call 78; refine (unhide d _ _ _ _).mono ?_; rintro e w' ⟨rfl, hw⟩; subst hw))
  refine (unhide d1 _).mono ?_
  rintro e w1 ⟨rfl, hb⟩
  obtain ⟨Y, hp, y0, y1, y2, hk⟩ := put45 (n := w.heap.size + 2) ((hb.block _ (by simp <;> omega)).trans (blk53 _ _ _ _ _ _)) (sumC ⟨t, n, s⟩ ⟨t2, n2, s2⟩)
  have HK := hide (hk w.heap.size w (by simp <;> omega) ((show Below w.heap.size w _ from (by first | exact Below.a1 _ _ | exact Below.a2 _ _ _ | exact Below.a3 _ _ _ _ | exact Below.a4 _ _ _ _ _ | exact Below.a5 _ _ _ _ _ _ | exact Below.a6 _ _ _ _ _ _ _ | exact Below.a7 _ _ _ _ _ _ _ _)).trans (hb.mono (by simp <;> omega))))
  obtain ⟨c, hc⟩ : ∃ c : Cl, c = sumC ⟨t, n, s⟩ ⟨t2, n2, s2⟩ := ⟨_, rfl⟩
  rw [← hc] at hp y0 y1 y2
  have HV := hide (congrArg (fun c : Cl => Ending.returned c.val) hc)
  rw [← hc]
  clear hb hk hc
  go_wp2_with fail
  exact bodyPost_ret (v := cV c.ty c.num c.tx) (by simp [results, Tryz.results124, go_sem, y0, y1, y2]) rfl ⟨unhide HV, unhide HK⟩
theorem btw13 (t n : Int) (s : ByteArray) (t2 n2 : Int) (s2 : ByteArray) (w : World) (h0 : ¬ t = 0) (h2 : ¬ t2 = 0) (hn : I64 n) (hn2 : I64 n2) : Calls Tryz.prog 124 #[.int .i64 13, cV t n s, cV t2 n2 s2] w fun e w' => e = .returned (difC ⟨t, n, s⟩ ⟨t2, n2, s2⟩).val ∧ Below w.heap.size w w' := by
  have d := hide isOver_ex
  have d1 : Hid (∀ w, Calls Tryz.prog 135 #[cV t n s, cV t2 n2 s2] w fun e w' => e = .returned (difC ⟨t, n, s⟩ ⟨t2, n2, s2⟩).val ∧ Below w.heap.size w w') := fun w => difference_any ⟨t, n, s⟩ ⟨t2, n2, s2⟩ w hn hn2
  have e0 := beqF h0
  have e2 := beqF h2
  clear h0 h2 hn hn2
  go_enter Tryz.func124, Tryz.ntmps124
  go_wp2_with (first | (go_at_call 78; refine (unhide d _ _ _ _).mono ?_; rintro e w' ⟨rfl, hw⟩; subst hw))
  refine (unhide d1 _).mono ?_
  rintro e w1 ⟨rfl, hb⟩
  obtain ⟨Y, hp, y0, y1, y2, hk⟩ := put45 (n := w.heap.size + 2) ((hb.block _ (by simp <;> omega)).trans (blk53 _ _ _ _ _ _)) (difC ⟨t, n, s⟩ ⟨t2, n2, s2⟩)
  have HK := hide (hk w.heap.size w (by simp <;> omega) ((show Below w.heap.size w _ from (by first | exact Below.a1 _ _ | exact Below.a2 _ _ _ | exact Below.a3 _ _ _ _ | exact Below.a4 _ _ _ _ _ | exact Below.a5 _ _ _ _ _ _ | exact Below.a6 _ _ _ _ _ _ _ | exact Below.a7 _ _ _ _ _ _ _ _)).trans (hb.mono (by simp <;> omega))))
  obtain ⟨c, hc⟩ : ∃ c : Cl, c = difC ⟨t, n, s⟩ ⟨t2, n2, s2⟩ := ⟨_, rfl⟩
  rw [← hc] at hp y0 y1 y2
  have HV := hide (congrArg (fun c : Cl => Ending.returned c.val) hc)
  rw [← hc]
  clear hb hk hc
  go_wp2_with fail
  exact bodyPost_ret (v := cV c.ty c.num c.tx) (by simp [results, Tryz.results124, go_sem, y0, y1, y2]) rfl ⟨unhide HV, unhide HK⟩
theorem btw14 (t n : Int) (s : ByteArray) (t2 n2 : Int) (s2 : ByteArray) (w : World) (h0 : ¬ t = 0) (h2 : ¬ t2 = 0) (hn : I64 n) (hn2 : I64 n2) : Calls Tryz.prog 124 #[.int .i64 14, cV t n s, cV t2 n2 s2] w fun e w' => e = .returned (mulC ⟨t, n, s⟩ ⟨t2, n2, s2⟩).val ∧ Below w.heap.size w w' := by
  have d := hide isOver_ex
  have d1 : Hid (∀ w, Calls Tryz.prog 136 #[cV t n s, cV t2 n2 s2] w fun e w' => e = .returned (mulC ⟨t, n, s⟩ ⟨t2, n2, s2⟩).val ∧ Below w.heap.size w w') := fun w => product_any ⟨t, n, s⟩ ⟨t2, n2, s2⟩ w hn hn2
  have e0 := beqF h0
  have e2 := beqF h2
  clear h0 h2 hn hn2
  go_enter Tryz.func124, Tryz.ntmps124
  go_wp2_with (first | (go_at_call 78; refine (unhide d _ _ _ _).mono ?_; rintro e w' ⟨rfl, hw⟩; subst hw))
  refine (unhide d1 _).mono ?_
  rintro e w1 ⟨rfl, hb⟩
  obtain ⟨Y, hp, y0, y1, y2, hk⟩ := put45 (n := w.heap.size + 2) ((hb.block _ (by simp <;> omega)).trans (blk53 _ _ _ _ _ _)) (mulC ⟨t, n, s⟩ ⟨t2, n2, s2⟩)
  have HK := hide (hk w.heap.size w (by simp <;> omega) ((show Below w.heap.size w _ from (by first | exact Below.a1 _ _ | exact Below.a2 _ _ _ | exact Below.a3 _ _ _ _ | exact Below.a4 _ _ _ _ _ | exact Below.a5 _ _ _ _ _ _ | exact Below.a6 _ _ _ _ _ _ _ | exact Below.a7 _ _ _ _ _ _ _ _)).trans (hb.mono (by simp <;> omega))))
  obtain ⟨c, hc⟩ : ∃ c : Cl, c = mulC ⟨t, n, s⟩ ⟨t2, n2, s2⟩ := ⟨_, rfl⟩
  rw [← hc] at hp y0 y1 y2
  have HV := hide (congrArg (fun c : Cl => Ending.returned c.val) hc)
  rw [← hc]
  clear hb hk hc
  go_wp2_with fail
  exact bodyPost_ret (v := cV c.ty c.num c.tx) (by simp [results, Tryz.results124, go_sem, y0, y1, y2]) rfl ⟨unhide HV, unhide HK⟩
theorem btwN (op t n : Int) (s : ByteArray) (t2 n2 : Int) (s2 : ByteArray) (w : World) (h0 : ¬ t = 0) (h2 : ¬ t2 = 0) (h12 : ¬ op = 12) (h13 : ¬ op = 13) (h14 : ¬ op = 14) (hs : s.size < 4294967281) (hM : Mx w) : Calls Tryz.prog 124 #[.int .i64 op, cV t n s, cV t2 n2 s2] w fun e w' => e = .returned (tru (holS op ⟨t, n, s⟩ ⟨t2, n2, s2⟩)).val ∧ Below w.heap.size w w' := by
  have d := hide isOver_ex
  have d1 : Hid (∀ o o2 o3 o4 o5, Calls Tryz.prog 137 #[.int .i64 op, cV t n s, cV t2 n2 s2] (((((w.alloc o).alloc o2).alloc o3).alloc o4).alloc o5) fun e w' => e = .returned (.bool (holS op ⟨t, n, s⟩ ⟨t2, n2, s2⟩)) ∧ Below (((((w.alloc o).alloc o2).alloc o3).alloc o4).alloc o5).heap.size (((((w.alloc o).alloc o2).alloc o3).alloc o4).alloc o5) w') := fun o o2 o3 o4 o5 => holds_any op ⟨t, n, s⟩ ⟨t2, n2, s2⟩ _ hs (hM.below (Below.a5 w o o2 o3 o4 o5) hM.1)
  have d2 := hide truthOf_any
  obtain ⟨b, hb⟩ : ∃ b, b = holS op ⟨t, n, s⟩ ⟨t2, n2, s2⟩ := ⟨_, rfl⟩
  rw [← hb] at d1 ⊢
  have e0 := beqF h0
  have e2 := beqF h2
  have e12 := beqF h12
  have e13 := beqF h13
  have e14 := beqF h14
  clear h0 h2 h12 h13 h14 hs hM hb
  go_enter Tryz.func124, Tryz.ntmps124
  go_wp2_with (first | (go_at_call 78; refine (unhide d _ _ _ _).mono ?_; rintro e w' ⟨rfl, hw⟩; subst hw))
  refine (unhide d1 _ _ _ _ _).mono ?_
  rintro e w0 ⟨rfl, hb0⟩
  have HB0 := hide hb0
  clear hb0
  go_wp2_with fail
  refine (unhide d2 _ _).mono ?_
  rintro e w1 ⟨rfl, hb1⟩
  have hb := (unhide HB0).trans (hb1.mono (unhide HB0).size)
  clear hb1
  obtain ⟨Y, hp, y0, y1, y2, hk⟩ := put45 (n := w.heap.size + 2) ((hb.block _ (by simp <;> omega)).trans (blk53 _ _ _ _ _ _)) (tru b)
  have HK := hide (hk w.heap.size w (by simp <;> omega) ((show Below w.heap.size w _ from (by first | exact Below.a1 _ _ | exact Below.a2 _ _ _ | exact Below.a3 _ _ _ _ | exact Below.a4 _ _ _ _ _ | exact Below.a5 _ _ _ _ _ _ | exact Below.a6 _ _ _ _ _ _ _ | exact Below.a7 _ _ _ _ _ _ _ _)).trans (hb.mono (by simp <;> omega))))
  obtain ⟨c, hc⟩ : ∃ c : Cl, c = tru b := ⟨_, rfl⟩
  rw [← hc] at hp y0 y1 y2
  have HV := hide (congrArg (fun c : Cl => Ending.returned c.val) hc)
  rw [← hc]
  clear hb hk hc
  go_wp2_with fail
  exact bodyPost_ret (v := cV c.ty c.num c.tx) (by simp [results, Tryz.results124, go_sem, y0, y1, y2]) rfl ⟨unhide HV, unhide HK⟩
end
theorem between_any (op : Int) (l r : Cl) (w : World) (hn : I64 l.num) (hn2 : I64 r.num) (hs : l.tx.size < 4294967281) (hM : Mx w) : Calls Tryz.prog 124 #[.int .i64 op, l.val, r.val] w fun e w' => e = .returned (btwC op l r).val ∧ Below w.heap.size w w' := by
  obtain ⟨t, n, s⟩ := l
  obtain ⟨t2, n2, s2⟩ := r
  unfold btwC
  by_cases h0 : t = 0
  · subst h0; rw [if_pos (.inl rfl)]; exact btw0 op n s t2 n2 s2 w
  by_cases h2 : t2 = 0
  · subst h2; rw [if_pos (.inr rfl)]; exact btw00 op t n s n2 s2 w h0
  rw [if_neg (fun h => h.elim h0 h2)]
  by_cases h12 : op = 12
  · subst h12; exact btw12 t n s t2 n2 s2 w h0 h2 hn hn2
  rw [if_neg h12]
  by_cases h13 : op = 13
  · subst h13; exact btw13 t n s t2 n2 s2 w h0 h2 hn hn2
  rw [if_neg h13]
  by_cases h14 : op = 14
  · subst h14; exact btw14 t n s t2 n2 s2 w h0 h2 hn hn2
  rw [if_neg h14]
  exact btwN op t n s t2 n2 s2 w h0 h2 h12 h13 h14 hs hM
end Go.Proofs.YtbenciieenbmeaaGreatDoor
/- answer: worth 104 at nodes of one part or none. -/
namespace Go.Proofs.YtbenciieenbmeaaGreatDoor
open Go Go.Shelf Go.ChangeShapes Go.WideShapes Go.ChangeAt Go.RowKit Go.Maps
set_option linter.unusedVariables false
def Cl.vals (c : Cl) : List Value := [.int .i64 c.ty, .int .i64 c.num, .string c.tx]
theorem run_ldC {w : World} {b o : Nat} {c : Cl} (h : w.rangeAt b o c.vals) : (ldC (.pointer (some ⟨b, o, none⟩))).run Tryz.prog w = .ok c.val w :=
  run_loadAt_mid (P := Tryz.prog) w b o 45 c.vals _ h Tryz.underlying45 rfl szC
/-- cells that lie in a block of their own -/
structure VAt (W : World) (g : Nat) (V : List Cl) : Prop where
  lt : g < W.heap.size
  at' : ∀ i (h : i < V.length), W.rangeAt g (i * 3) (V[i]).vals
theorem VAt.below {B : Nat} {W W' : World} {g : Nat} {V : List Cl} (h : VAt W g V) (hb : Below B W W') (hg : g < B) : VAt W' g V :=
  ⟨Nat.lt_of_lt_of_le h.lt hb.size, fun i hi j u hu => by rw [hb.cell (p := ⟨g, i * 3 + j, none⟩) hg]; exact h.at' i hi j u hu⟩
theorem VAt.ld {W : World} {g : Nat} {V : List Cl} (h : VAt W g V) (i : Nat) (hi : i < V.length) : (ldC (.pointer (some ⟨g, i * 3, none⟩))).run Tryz.prog W = .ok (V[i]).val W := run_ldC (h.at' i hi)
theorem blk3r (w : World) (o o2 o3 : Obj) : (((w.alloc o).alloc o2).alloc o3).heap[w.heap.size]? = some o := by
  rw [Below.heap_alloc _ _ _ (by simp; omega), Below.heap_alloc _ _ _ (by simp)]; exact heap_new w o
/-- a cell among those ahead -/
def vat (V : List Cl) (i : Int) : Cl := V.getD i.toNat .no
/-- what a node is worth at a row -/
noncomputable def wrC (x : Nd) (r : Ro) (V : List Cl) : Cl :=
  if x.op = 16 then fwC x.field r else if x.op = 17 then numC 1 x.num else if x.op = 18 then txt x.text else if x.op = 19 then ⟨3, x.num, ⟨#[]⟩⟩ else if x.op = 20 then tru (x.num == 1)
  else if x.op = 3 ∨ x.op = 15 then opp (vat V x.left) else if x.op = 2 then cho (vat V x.left) (vat V x.right) true else if x.op = 1 then cho (vat V x.left) (vat V x.right) false
  else btwC x.op (vat V x.left) (vat V x.right)
section
attribute [local go_sem ↓] stC_is ldC_is
set_option maxRecDepth 100000
set_option maxHeartbeats 2000000
theorem wr16 (l rt f m : Int) (s : ByteArray) (r : Ro) (v : Value) (w : World) (hM : Mon w) (hX : Mx w) (ha : r.acc.size < 4294967281) : Calls Tryz.prog 104 #[.agg #[.int .i64 16, .int .i64 l, .int .i64 rt, .int .i64 f, .int .i64 m, .string s], r.val, v] w fun e w' => e = .returned (fwC f r).val ∧ Below w.heap.size w w' := by
  have d := hide (fun f r w (hM : Mon w) (hX : Mx w) (ha : r.acc.size < 4294967281) => fieldAt_any f r w hM hX ha)
  have HM : Hid (∀ o o2 o3, Mon (((w.alloc o).alloc o2).alloc o3)) := fun o o2 o3 => mon1 (mon1 (mon1 hM o) o2) o3
  have HX : Hid (∀ o o2 o3, Mx (((w.alloc o).alloc o2).alloc o3)) := fun o o2 o3 => hX.below (Below.a3 w o o2 o3) hX.1
  have HA := hide ha
  clear hM hX ha
  obtain ⟨i0, i1, i2, i3, s4, acc, amt, s7, s8⟩ := r
  show Calls Tryz.prog 104 #[_, .agg #[.int .i64 i0, .int .i64 i1, .int .i64 i2, .int .i64 i3, .string s4, .string acc, .int .i64 amt, .string s7, .string s8], _] w _
  go_enter Tryz.func104, Tryz.ntmps104
  go_wp2_with fail
  refine (unhide d f ⟨i0, i1, i2, i3, s4, acc, amt, s7, s8⟩ _ (unhide HM _ _ _) (unhide HX _ _ _) (unhide HA)).mono ?_
  rintro e w1 ⟨rfl, hb⟩
  obtain ⟨Y, hp, y0, y1, y2, hk⟩ := put45 (n := w.heap.size + 2) ((hb.block _ (by simp <;> omega)).trans (blk33 _ _ _ _)) (fwC f ⟨i0, i1, i2, i3, s4, acc, amt, s7, s8⟩)
  have HK := hide (hk w.heap.size w (by simp <;> omega) ((show Below w.heap.size w _ from (by first | exact Below.a1 _ _ | exact Below.a2 _ _ _ | exact Below.a3 _ _ _ _ | exact Below.a4 _ _ _ _ _ | exact Below.a5 _ _ _ _ _ _ | exact Below.a6 _ _ _ _ _ _ _ | exact Below.a7 _ _ _ _ _ _ _ _)).trans (hb.mono (by simp <;> omega))))
  obtain ⟨c, hc⟩ : ∃ c : Cl, c = fwC f ⟨i0, i1, i2, i3, s4, acc, amt, s7, s8⟩ := ⟨_, rfl⟩
  rw [← hc] at hp y0 y1 y2
  have HV := hide (congrArg (fun c : Cl => Ending.returned c.val) hc)
  rw [← hc]
  clear hb hk hc
  go_wp2_with fail
  exact bodyPost_ret (v := cV c.ty c.num c.tx) (by simp [results, Tryz.results104, go_sem, y0, y1, y2]) rfl ⟨unhide HV, unhide HK⟩
theorem wr17 (l rt f m : Int) (s : ByteArray) (r : Ro) (v : Value) (w : World) : Calls Tryz.prog 104 #[.agg #[.int .i64 17, .int .i64 l, .int .i64 rt, .int .i64 f, .int .i64 m, .string s], r.val, v] w fun e w' => e = .returned (numC 1 m).val ∧ Below w.heap.size w w' := by
  have d := hide numberOf_any
  obtain ⟨i0, i1, i2, i3, s4, acc, amt, s7, s8⟩ := r
  show Calls Tryz.prog 104 #[_, .agg #[.int .i64 i0, .int .i64 i1, .int .i64 i2, .int .i64 i3, .string s4, .string acc, .int .i64 amt, .string s7, .string s8], _] w _
  go_enter Tryz.func104, Tryz.ntmps104
  go_wp2_with fail
  refine (unhide d _ _ _).mono ?_
  rintro e w1 ⟨rfl, hb⟩
  obtain ⟨Y, hp, y0, y1, y2, hk⟩ := put45 (n := w.heap.size + 2) ((hb.block _ (by simp <;> omega)).trans (blk33 _ _ _ _)) (numC 1 m)
  have HK := hide (hk w.heap.size w (by simp <;> omega) ((show Below w.heap.size w _ from (by first | exact Below.a1 _ _ | exact Below.a2 _ _ _ | exact Below.a3 _ _ _ _ | exact Below.a4 _ _ _ _ _ | exact Below.a5 _ _ _ _ _ _ | exact Below.a6 _ _ _ _ _ _ _ | exact Below.a7 _ _ _ _ _ _ _ _)).trans (hb.mono (by simp <;> omega))))
  obtain ⟨c, hc⟩ : ∃ c : Cl, c = numC 1 m := ⟨_, rfl⟩
  rw [← hc] at hp y0 y1 y2
  have HV := hide (congrArg (fun c : Cl => Ending.returned c.val) hc)
  rw [← hc]
  clear hb hk hc
  go_wp2_with fail
  exact bodyPost_ret (v := cV c.ty c.num c.tx) (by simp [results, Tryz.results104, go_sem, y0, y1, y2]) rfl ⟨unhide HV, unhide HK⟩
theorem wr18 (l rt f m : Int) (s : ByteArray) (r : Ro) (v : Value) (w : World) : Calls Tryz.prog 104 #[.agg #[.int .i64 18, .int .i64 l, .int .i64 rt, .int .i64 f, .int .i64 m, .string s], r.val, v] w fun e w' => e = .returned (txt s).val ∧ Below w.heap.size w w' := by
  have d := hide textOf_any
  obtain ⟨i0, i1, i2, i3, s4, acc, amt, s7, s8⟩ := r
  show Calls Tryz.prog 104 #[_, .agg #[.int .i64 i0, .int .i64 i1, .int .i64 i2, .int .i64 i3, .string s4, .string acc, .int .i64 amt, .string s7, .string s8], _] w _
  go_enter Tryz.func104, Tryz.ntmps104
  go_wp2_with fail
  refine (unhide d _ _).mono ?_
  rintro e w1 ⟨rfl, hb⟩
  obtain ⟨Y, hp, y0, y1, y2, hk⟩ := put45 (n := w.heap.size + 2) ((hb.block _ (by simp <;> omega)).trans (blk33 _ _ _ _)) (txt s)
  have HK := hide (hk w.heap.size w (by simp <;> omega) ((show Below w.heap.size w _ from (by first | exact Below.a1 _ _ | exact Below.a2 _ _ _ | exact Below.a3 _ _ _ _ | exact Below.a4 _ _ _ _ _ | exact Below.a5 _ _ _ _ _ _ | exact Below.a6 _ _ _ _ _ _ _ | exact Below.a7 _ _ _ _ _ _ _ _)).trans (hb.mono (by simp <;> omega))))
  obtain ⟨c, hc⟩ : ∃ c : Cl, c = txt s := ⟨_, rfl⟩
  rw [← hc] at hp y0 y1 y2
  have HV := hide (congrArg (fun c : Cl => Ending.returned c.val) hc)
  rw [← hc]
  clear hb hk hc
  go_wp2_with fail
  exact bodyPost_ret (v := cV c.ty c.num c.tx) (by simp [results, Tryz.results104, go_sem, y0, y1, y2]) rfl ⟨unhide HV, unhide HK⟩
theorem wr20 (l rt f m : Int) (s : ByteArray) (r : Ro) (v : Value) (w : World) : Calls Tryz.prog 104 #[.agg #[.int .i64 20, .int .i64 l, .int .i64 rt, .int .i64 f, .int .i64 m, .string s], r.val, v] w fun e w' => e = .returned (tru (m == 1)).val ∧ Below w.heap.size w w' := by
  have d := hide truthOf_any
  obtain ⟨i0, i1, i2, i3, s4, acc, amt, s7, s8⟩ := r
  show Calls Tryz.prog 104 #[_, .agg #[.int .i64 i0, .int .i64 i1, .int .i64 i2, .int .i64 i3, .string s4, .string acc, .int .i64 amt, .string s7, .string s8], _] w _
  go_enter Tryz.func104, Tryz.ntmps104
  go_wp2_with fail
  refine (unhide d _ _).mono ?_
  rintro e w1 ⟨rfl, hb⟩
  obtain ⟨Y, hp, y0, y1, y2, hk⟩ := put45 (n := w.heap.size + 2) ((hb.block _ (by simp <;> omega)).trans (blk33 _ _ _ _)) (tru (m == 1))
  have HK := hide (hk w.heap.size w (by simp <;> omega) ((show Below w.heap.size w _ from (by first | exact Below.a1 _ _ | exact Below.a2 _ _ _ | exact Below.a3 _ _ _ _ | exact Below.a4 _ _ _ _ _ | exact Below.a5 _ _ _ _ _ _ | exact Below.a6 _ _ _ _ _ _ _ | exact Below.a7 _ _ _ _ _ _ _ _)).trans (hb.mono (by simp <;> omega))))
  obtain ⟨c, hc⟩ : ∃ c : Cl, c = tru (m == 1) := ⟨_, rfl⟩
  rw [← hc] at hp y0 y1 y2
  have HV := hide (congrArg (fun c : Cl => Ending.returned c.val) hc)
  rw [← hc]
  clear hb hk hc
  go_wp2_with fail
  exact bodyPost_ret (v := cV c.ty c.num c.tx) (by simp [results, Tryz.results104, go_sem, y0, y1, y2]) rfl ⟨unhide HV, unhide HK⟩
end
set_option maxRecDepth 100000 in
set_option maxHeartbeats 2000000 in
theorem wr19 (l rt f m : Int) (s : ByteArray) (r : Ro) (v : Value) (w : World) : Calls Tryz.prog 104 #[.agg #[.int .i64 19, .int .i64 l, .int .i64 rt, .int .i64 f, .int .i64 m, .string s], r.val, v] w fun e w' => e = .returned (cV 3 m ⟨#[]⟩) ∧ Below w.heap.size w w' := by
  have HB : Hid (∀ o o2 o3, Below w.heap.size w (((w.alloc o).alloc o2).alloc o3)) := Below.a3 w
  obtain ⟨i0, i1, i2, i3, s4, acc, amt, s7, s8⟩ := r
  show Calls Tryz.prog 104 #[_, .agg #[.int .i64 i0, .int .i64 i1, .int .i64 i2, .int .i64 i3, .string s4, .string acc, .int .i64 amt, .string s7, .string s8], _] w _
  go_enter Tryz.func104, Tryz.ntmps104
  go_wp2_with fail
  exact bodyPost_ret (v := cV 3 m ⟨#[]⟩) (by simp [results, Tryz.results104, go_sem]) rfl ⟨rfl, unhide HB _ _ _⟩
section
attribute [local go_sem ↓] stC_is ldC_is
set_option maxRecDepth 100000
set_option maxHeartbeats 2000000
theorem wr3 (k : Nat) (rt f m : Int) (s : ByteArray) (r : Ro) (g n c : Nat) (V : List Cl) (hn : V.length = n) (hk : k < n) (w : World) (hV : VAt w g V) : Calls Tryz.prog 104 #[.agg #[.int .i64 3, .int .i64 k, .int .i64 rt, .int .i64 f, .int .i64 m, .string s], r.val, .slice (some ⟨g, 0, none⟩) n c] w fun e w' => e = .returned (opp (V.getD k .no)).val ∧ Below w.heap.size w w' := by
  have d := hide opp_any
  have l1 : Hid (∀ o o2 o3, (ldC (.pointer (some ⟨g, k * 3, none⟩))).run Tryz.prog (((w.alloc o).alloc o2).alloc o3) = .ok (V.getD k .no).val (((w.alloc o).alloc o2).alloc o3)) := fun o o2 o3 => by
    have := (hV.below (Below.a3 w o o2 o3) hV.lt).ld k (by omega)
    rw [this, List.getD_eq_getElem?_getD, List.getElem?_eq_getElem (by omega)]; rfl
  obtain ⟨x, hx⟩ : ∃ x, x = V.getD k .no := ⟨_, rfl⟩
  rw [← hx] at l1 ⊢
  have l2 := unhide l1
  have hkn : (k : Int) < (n : Int) := by omega
  have h3 : ¬ (k : Int) < 0 := by omega
  obtain ⟨i0, i1, i2, i3, s4, acc, amt, s7, s8⟩ := r
  show Calls Tryz.prog 104 #[_, .agg #[.int .i64 i0, .int .i64 i1, .int .i64 i2, .int .i64 i3, .string s4, .string acc, .int .i64 amt, .string s7, .string s8], _] w _
  clear hV hx hn hk l1
  go_enter Tryz.func104, Tryz.ntmps104
  go_wp2_with fail
  refine (unhide d _ _).mono ?_
  rintro e w1 ⟨rfl, hb⟩
  obtain ⟨Y, hp, y0, y1, y2, hk⟩ := put45 (n := w.heap.size + 2) ((hb.block _ (by simp <;> omega)).trans (blk33 _ _ _ _)) (opp x)
  have HK := hide (hk w.heap.size w (by simp <;> omega) ((show Below w.heap.size w _ from (by first | exact Below.a1 _ _ | exact Below.a2 _ _ _ | exact Below.a3 _ _ _ _ | exact Below.a4 _ _ _ _ _ | exact Below.a5 _ _ _ _ _ _ | exact Below.a6 _ _ _ _ _ _ _ | exact Below.a7 _ _ _ _ _ _ _ _)).trans (hb.mono (by simp <;> omega))))
  obtain ⟨c, hc⟩ : ∃ c : Cl, c = opp x := ⟨_, rfl⟩
  rw [← hc] at hp y0 y1 y2
  have HV := hide (congrArg (fun c : Cl => Ending.returned c.val) hc)
  rw [← hc]
  clear hb hk hc
  go_wp2_with fail
  exact bodyPost_ret (v := cV c.ty c.num c.tx) (by simp [results, Tryz.results104, go_sem, y0, y1, y2]) rfl ⟨unhide HV, unhide HK⟩
theorem wr15 (k : Nat) (rt f m : Int) (s : ByteArray) (r : Ro) (g n c : Nat) (V : List Cl) (hn : V.length = n) (hk : k < n) (w : World) (hV : VAt w g V) : Calls Tryz.prog 104 #[.agg #[.int .i64 15, .int .i64 k, .int .i64 rt, .int .i64 f, .int .i64 m, .string s], r.val, .slice (some ⟨g, 0, none⟩) n c] w fun e w' => e = .returned (opp (V.getD k .no)).val ∧ Below w.heap.size w w' := by
  have d := hide opp_any
  have l1 : Hid (∀ o o2 o3, (ldC (.pointer (some ⟨g, k * 3, none⟩))).run Tryz.prog (((w.alloc o).alloc o2).alloc o3) = .ok (V.getD k .no).val (((w.alloc o).alloc o2).alloc o3)) := fun o o2 o3 => by
    have := (hV.below (Below.a3 w o o2 o3) hV.lt).ld k (by omega)
    rw [this, List.getD_eq_getElem?_getD, List.getElem?_eq_getElem (by omega)]; rfl
  obtain ⟨x, hx⟩ : ∃ x, x = V.getD k .no := ⟨_, rfl⟩
  rw [← hx] at l1 ⊢
  have l2 := unhide l1
  have hkn : (k : Int) < (n : Int) := by omega
  have h3 : ¬ (k : Int) < 0 := by omega
  obtain ⟨i0, i1, i2, i3, s4, acc, amt, s7, s8⟩ := r
  show Calls Tryz.prog 104 #[_, .agg #[.int .i64 i0, .int .i64 i1, .int .i64 i2, .int .i64 i3, .string s4, .string acc, .int .i64 amt, .string s7, .string s8], _] w _
  clear hV hx hn hk l1
  go_enter Tryz.func104, Tryz.ntmps104
  go_wp2_with fail
  refine (unhide d _ _).mono ?_
  rintro e w1 ⟨rfl, hb⟩
  obtain ⟨Y, hp, y0, y1, y2, hk⟩ := put45 (n := w.heap.size + 2) ((hb.block _ (by simp <;> omega)).trans (blk33 _ _ _ _)) (opp x)
  have HK := hide (hk w.heap.size w (by simp <;> omega) ((show Below w.heap.size w _ from (by first | exact Below.a1 _ _ | exact Below.a2 _ _ _ | exact Below.a3 _ _ _ _ | exact Below.a4 _ _ _ _ _ | exact Below.a5 _ _ _ _ _ _ | exact Below.a6 _ _ _ _ _ _ _ | exact Below.a7 _ _ _ _ _ _ _ _)).trans (hb.mono (by simp <;> omega))))
  obtain ⟨c, hc⟩ : ∃ c : Cl, c = opp x := ⟨_, rfl⟩
  rw [← hc] at hp y0 y1 y2
  have HV := hide (congrArg (fun c : Cl => Ending.returned c.val) hc)
  rw [← hc]
  clear hb hk hc
  go_wp2_with fail
  exact bodyPost_ret (v := cV c.ty c.num c.tx) (by simp [results, Tryz.results104, go_sem, y0, y1, y2]) rfl ⟨unhide HV, unhide HK⟩
end
end Go.Proofs.YtbenciieenbmeaaGreatDoor
