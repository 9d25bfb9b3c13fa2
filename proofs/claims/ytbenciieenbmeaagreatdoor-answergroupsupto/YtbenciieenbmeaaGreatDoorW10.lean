import Derived.Test.YtbenciieenbmeaaGreatDoorW09
import Derived.Test.YtbenciieenbmeaaGreatDoorW05
import Derived.Sort.Walk0
/- answer: fieldAt 105. -/
namespace Go.Proofs.YtbenciieenbmeaaGreatDoor
open Go Go.Shelf Go.ChangeShapes Go.WideShapes Go.ChangeAt Go.RowKit Go.Maps
set_option linter.unusedVariables false
/-- a row -/
structure Ro where
  i0 : Int
  i1 : Int
  i2 : Int
  i3 : Int
  s4 : ByteArray
  acc : ByteArray
  amt : Int
  s7 : ByteArray
  s8 : ByteArray
def Ro.vals (r : Ro) : List Value := [.int .i64 r.i0, .int .i64 r.i1, .int .i64 r.i2, .int .i64 r.i3, .string r.s4, .string r.acc, .int .i64 r.amt, .string r.s7, .string r.s8]
def Ro.val (r : Ro) : Value := .agg #[.int .i64 r.i0, .int .i64 r.i1, .int .i64 r.i2, .int .i64 r.i3, .string r.s4, .string r.acc, .int .i64 r.amt, .string r.s7, .string r.s8]
/-- the variable of the library's search holds a number -/
def Mx (w : World) : Prop := 3 < w.heap.size ∧ ∃ m, w.cell? ⟨3, 0, none⟩ = some (.int .i64 m)
theorem Mx.below {B : Nat} {a w : World} (h : Mx a) (hb : Below B a w) (hB : 3 < B) : Mx w := by
  obtain ⟨h1, m, hm⟩ := h
  exact ⟨Nat.lt_of_lt_of_le h1 hb.size, m, by rw [hb.cell hB]; exact hm⟩
def rootT (s : ByteArray) : ByteArray := ⟨(Lib.cut s.data.toList [58]).1.toArray⟩
/-- what a field is worth at a row -/
noncomputable def fwC (f : Int) (r : Ro) : Cl := if f = 1 then numC 1 r.i0 else if f = 2 then numC 1 r.i1 else if f = 4 then numC 1 r.i3 else if f = 5 then txt r.s4 else if f = 6 then txt r.acc else if f = 10 then txt r.s7 else if f = 11 then txt r.s8 else if f = 14 then txt (rootT r.acc) else if f = 7 ∨ f = 8 ∨ f = 9 then amtC f r.amt else dayC f r.i2
section
attribute [local go_sem ↓] stC_is
set_option maxRecDepth 100000
set_option maxHeartbeats 2000000
theorem fld1 (r : Ro) (w : World) : Calls Tryz.prog 105 #[.int .i64 1, r.val] w fun e w' => e = .returned (numC 1 r.i0).val ∧ Below w.heap.size w w' := by
  have d := hide numberOf_any
  obtain ⟨i0, i1, i2, i3, s4, acc, amt, s7, s8⟩ := r
  show Calls Tryz.prog 105 #[_, .agg #[.int .i64 i0, .int .i64 i1, .int .i64 i2, .int .i64 i3, .string s4, .string acc, .int .i64 amt, .string s7, .string s8]] w _
  go_enter Tryz.func105, Tryz.ntmps105
  go_wp2_with fail
  refine (unhide d _ _ _).mono ?_
  rintro e w1 ⟨rfl, hb⟩
  obtain ⟨Y, hp, y0, y1, y2, hk⟩ := put45 (n := w.heap.size + 1) ((hb.block _ (by simp <;> omega)).trans (blk2 _ _ _)) (numC 1 i0)
  have HK := hide (hk w.heap.size w (by simp <;> omega) ((show Below w.heap.size w _ from (by first | exact Below.a1 _ _ | exact Below.a2 _ _ _ | exact Below.a3 _ _ _ _ | exact Below.a4 _ _ _ _ _ | exact Below.a5 _ _ _ _ _ _ | exact Below.a6 _ _ _ _ _ _ _ | exact Below.a7 _ _ _ _ _ _ _ _)).trans (hb.mono (by simp <;> omega))))
  obtain ⟨c, hc⟩ : ∃ c : Cl, c = numC 1 i0 := ⟨_, rfl⟩
  rw [← hc] at hp y0 y1 y2
  have HV := hide (congrArg (fun c : Cl => Ending.returned c.val) hc)
  rw [← hc]
  clear hb hk hc
  go_wp2_with fail
  exact bodyPost_ret (v := cV c.ty c.num c.tx) (by simp [results, Tryz.results105, go_sem, y0, y1, y2]) rfl ⟨unhide HV, unhide HK⟩
theorem fld2 (r : Ro) (w : World) : Calls Tryz.prog 105 #[.int .i64 2, r.val] w fun e w' => e = .returned (numC 1 r.i1).val ∧ Below w.heap.size w w' := by
  have d := hide numberOf_any
  obtain ⟨i0, i1, i2, i3, s4, acc, amt, s7, s8⟩ := r
  show Calls Tryz.prog 105 #[_, .agg #[.int .i64 i0, .int .i64 i1, .int .i64 i2, .int .i64 i3, .string s4, .string acc, .int .i64 amt, .string s7, .string s8]] w _
  go_enter Tryz.func105, Tryz.ntmps105
  go_wp2_with fail
  refine (unhide d _ _ _).mono ?_
  rintro e w1 ⟨rfl, hb⟩
  obtain ⟨Y, hp, y0, y1, y2, hk⟩ := put45 (n := w.heap.size + 1) ((hb.block _ (by simp <;> omega)).trans (blk2 _ _ _)) (numC 1 i1)
  have HK := hide (hk w.heap.size w (by simp <;> omega) ((show Below w.heap.size w _ from (by first | exact Below.a1 _ _ | exact Below.a2 _ _ _ | exact Below.a3 _ _ _ _ | exact Below.a4 _ _ _ _ _ | exact Below.a5 _ _ _ _ _ _ | exact Below.a6 _ _ _ _ _ _ _ | exact Below.a7 _ _ _ _ _ _ _ _)).trans (hb.mono (by simp <;> omega))))
  obtain ⟨c, hc⟩ : ∃ c : Cl, c = numC 1 i1 := ⟨_, rfl⟩
  rw [← hc] at hp y0 y1 y2
  have HV := hide (congrArg (fun c : Cl => Ending.returned c.val) hc)
  rw [← hc]
  clear hb hk hc
  go_wp2_with fail
  exact bodyPost_ret (v := cV c.ty c.num c.tx) (by simp [results, Tryz.results105, go_sem, y0, y1, y2]) rfl ⟨unhide HV, unhide HK⟩
theorem fld4 (r : Ro) (w : World) : Calls Tryz.prog 105 #[.int .i64 4, r.val] w fun e w' => e = .returned (numC 1 r.i3).val ∧ Below w.heap.size w w' := by
  have d := hide numberOf_any
  obtain ⟨i0, i1, i2, i3, s4, acc, amt, s7, s8⟩ := r
  show Calls Tryz.prog 105 #[_, .agg #[.int .i64 i0, .int .i64 i1, .int .i64 i2, .int .i64 i3, .string s4, .string acc, .int .i64 amt, .string s7, .string s8]] w _
  go_enter Tryz.func105, Tryz.ntmps105
  go_wp2_with fail
  refine (unhide d _ _ _).mono ?_
  rintro e w1 ⟨rfl, hb⟩
  obtain ⟨Y, hp, y0, y1, y2, hk⟩ := put45 (n := w.heap.size + 1) ((hb.block _ (by simp <;> omega)).trans (blk2 _ _ _)) (numC 1 i3)
  have HK := hide (hk w.heap.size w (by simp <;> omega) ((show Below w.heap.size w _ from (by first | exact Below.a1 _ _ | exact Below.a2 _ _ _ | exact Below.a3 _ _ _ _ | exact Below.a4 _ _ _ _ _ | exact Below.a5 _ _ _ _ _ _ | exact Below.a6 _ _ _ _ _ _ _ | exact Below.a7 _ _ _ _ _ _ _ _)).trans (hb.mono (by simp <;> omega))))
  obtain ⟨c, hc⟩ : ∃ c : Cl, c = numC 1 i3 := ⟨_, rfl⟩
  rw [← hc] at hp y0 y1 y2
  have HV := hide (congrArg (fun c : Cl => Ending.returned c.val) hc)
  rw [← hc]
  clear hb hk hc
  go_wp2_with fail
  exact bodyPost_ret (v := cV c.ty c.num c.tx) (by simp [results, Tryz.results105, go_sem, y0, y1, y2]) rfl ⟨unhide HV, unhide HK⟩
theorem fld5 (r : Ro) (w : World) : Calls Tryz.prog 105 #[.int .i64 5, r.val] w fun e w' => e = .returned (txt r.s4).val ∧ Below w.heap.size w w' := by
  have d := hide textOf_any
  obtain ⟨i0, i1, i2, i3, s4, acc, amt, s7, s8⟩ := r
  show Calls Tryz.prog 105 #[_, .agg #[.int .i64 i0, .int .i64 i1, .int .i64 i2, .int .i64 i3, .string s4, .string acc, .int .i64 amt, .string s7, .string s8]] w _
  go_enter Tryz.func105, Tryz.ntmps105
  go_wp2_with fail
  refine (unhide d _ _).mono ?_
  rintro e w1 ⟨rfl, hb⟩
  obtain ⟨Y, hp, y0, y1, y2, hk⟩ := put45 (n := w.heap.size + 1) ((hb.block _ (by simp <;> omega)).trans (blk2 _ _ _)) (txt s4)
  have HK := hide (hk w.heap.size w (by simp <;> omega) ((show Below w.heap.size w _ from (by first | exact Below.a1 _ _ | exact Below.a2 _ _ _ | exact Below.a3 _ _ _ _ | exact Below.a4 _ _ _ _ _ | exact Below.a5 _ _ _ _ _ _ | exact Below.a6 _ _ _ _ _ _ _ | exact Below.a7 _ _ _ _ _ _ _ _)).trans (hb.mono (by simp <;> omega))))
  obtain ⟨c, hc⟩ : ∃ c : Cl, c = txt s4 := ⟨_, rfl⟩
  rw [← hc] at hp y0 y1 y2
  have HV := hide (congrArg (fun c : Cl => Ending.returned c.val) hc)
  rw [← hc]
  clear hb hk hc
  go_wp2_with fail
  exact bodyPost_ret (v := cV c.ty c.num c.tx) (by simp [results, Tryz.results105, go_sem, y0, y1, y2]) rfl ⟨unhide HV, unhide HK⟩
theorem fld6 (r : Ro) (w : World) : Calls Tryz.prog 105 #[.int .i64 6, r.val] w fun e w' => e = .returned (txt r.acc).val ∧ Below w.heap.size w w' := by
  have d := hide textOf_any
  obtain ⟨i0, i1, i2, i3, s4, acc, amt, s7, s8⟩ := r
  show Calls Tryz.prog 105 #[_, .agg #[.int .i64 i0, .int .i64 i1, .int .i64 i2, .int .i64 i3, .string s4, .string acc, .int .i64 amt, .string s7, .string s8]] w _
  go_enter Tryz.func105, Tryz.ntmps105
  go_wp2_with fail
  refine (unhide d _ _).mono ?_
  rintro e w1 ⟨rfl, hb⟩
  obtain ⟨Y, hp, y0, y1, y2, hk⟩ := put45 (n := w.heap.size + 1) ((hb.block _ (by simp <;> omega)).trans (blk2 _ _ _)) (txt acc)
  have HK := hide (hk w.heap.size w (by simp <;> omega) ((show Below w.heap.size w _ from (by first | exact Below.a1 _ _ | exact Below.a2 _ _ _ | exact Below.a3 _ _ _ _ | exact Below.a4 _ _ _ _ _ | exact Below.a5 _ _ _ _ _ _ | exact Below.a6 _ _ _ _ _ _ _ | exact Below.a7 _ _ _ _ _ _ _ _)).trans (hb.mono (by simp <;> omega))))
  obtain ⟨c, hc⟩ : ∃ c : Cl, c = txt acc := ⟨_, rfl⟩
  rw [← hc] at hp y0 y1 y2
  have HV := hide (congrArg (fun c : Cl => Ending.returned c.val) hc)
  rw [← hc]
  clear hb hk hc
  go_wp2_with fail
  exact bodyPost_ret (v := cV c.ty c.num c.tx) (by simp [results, Tryz.results105, go_sem, y0, y1, y2]) rfl ⟨unhide HV, unhide HK⟩
theorem fld10 (r : Ro) (w : World) : Calls Tryz.prog 105 #[.int .i64 10, r.val] w fun e w' => e = .returned (txt r.s7).val ∧ Below w.heap.size w w' := by
  have d := hide textOf_any
  obtain ⟨i0, i1, i2, i3, s4, acc, amt, s7, s8⟩ := r
  show Calls Tryz.prog 105 #[_, .agg #[.int .i64 i0, .int .i64 i1, .int .i64 i2, .int .i64 i3, .string s4, .string acc, .int .i64 amt, .string s7, .string s8]] w _
  go_enter Tryz.func105, Tryz.ntmps105
  go_wp2_with fail
  refine (unhide d _ _).mono ?_
  rintro e w1 ⟨rfl, hb⟩
  obtain ⟨Y, hp, y0, y1, y2, hk⟩ := put45 (n := w.heap.size + 1) ((hb.block _ (by simp <;> omega)).trans (blk2 _ _ _)) (txt s7)
  have HK := hide (hk w.heap.size w (by simp <;> omega) ((show Below w.heap.size w _ from (by first | exact Below.a1 _ _ | exact Below.a2 _ _ _ | exact Below.a3 _ _ _ _ | exact Below.a4 _ _ _ _ _ | exact Below.a5 _ _ _ _ _ _ | exact Below.a6 _ _ _ _ _ _ _ | exact Below.a7 _ _ _ _ _ _ _ _)).trans (hb.mono (by simp <;> omega))))
  obtain ⟨c, hc⟩ : ∃ c : Cl, c = txt s7 := ⟨_, rfl⟩
  rw [← hc] at hp y0 y1 y2
  have HV := hide (congrArg (fun c : Cl => Ending.returned c.val) hc)
  rw [← hc]
  clear hb hk hc
  go_wp2_with fail
  exact bodyPost_ret (v := cV c.ty c.num c.tx) (by simp [results, Tryz.results105, go_sem, y0, y1, y2]) rfl ⟨unhide HV, unhide HK⟩
theorem fld11 (r : Ro) (w : World) : Calls Tryz.prog 105 #[.int .i64 11, r.val] w fun e w' => e = .returned (txt r.s8).val ∧ Below w.heap.size w w' := by
  have d := hide textOf_any
  obtain ⟨i0, i1, i2, i3, s4, acc, amt, s7, s8⟩ := r
  show Calls Tryz.prog 105 #[_, .agg #[.int .i64 i0, .int .i64 i1, .int .i64 i2, .int .i64 i3, .string s4, .string acc, .int .i64 amt, .string s7, .string s8]] w _
  go_enter Tryz.func105, Tryz.ntmps105
  go_wp2_with fail
  refine (unhide d _ _).mono ?_
  rintro e w1 ⟨rfl, hb⟩
  obtain ⟨Y, hp, y0, y1, y2, hk⟩ := put45 (n := w.heap.size + 1) ((hb.block _ (by simp <;> omega)).trans (blk2 _ _ _)) (txt s8)
  have HK := hide (hk w.heap.size w (by simp <;> omega) ((show Below w.heap.size w _ from (by first | exact Below.a1 _ _ | exact Below.a2 _ _ _ | exact Below.a3 _ _ _ _ | exact Below.a4 _ _ _ _ _ | exact Below.a5 _ _ _ _ _ _ | exact Below.a6 _ _ _ _ _ _ _ | exact Below.a7 _ _ _ _ _ _ _ _)).trans (hb.mono (by simp <;> omega))))
  obtain ⟨c, hc⟩ : ∃ c : Cl, c = txt s8 := ⟨_, rfl⟩
  rw [← hc] at hp y0 y1 y2
  have HV := hide (congrArg (fun c : Cl => Ending.returned c.val) hc)
  rw [← hc]
  clear hb hk hc
  go_wp2_with fail
  exact bodyPost_ret (v := cV c.ty c.num c.tx) (by simp [results, Tryz.results105, go_sem, y0, y1, y2]) rfl ⟨unhide HV, unhide HK⟩
theorem fld7 (r : Ro) (w : World) : Calls Tryz.prog 105 #[.int .i64 7, r.val] w fun e w' => e = .returned (amtC 7 r.amt).val ∧ Below w.heap.size w w' := by
  have d := hide amountAt_any
  obtain ⟨i0, i1, i2, i3, s4, acc, amt, s7, s8⟩ := r
  show Calls Tryz.prog 105 #[_, .agg #[.int .i64 i0, .int .i64 i1, .int .i64 i2, .int .i64 i3, .string s4, .string acc, .int .i64 amt, .string s7, .string s8]] w _
  go_enter Tryz.func105, Tryz.ntmps105
  go_wp2_with fail
  refine (unhide d _ _ _).mono ?_
  rintro e w1 ⟨rfl, hb⟩
  obtain ⟨Y, hp, y0, y1, y2, hk⟩ := put45 (n := w.heap.size + 1) ((hb.block _ (by simp <;> omega)).trans (blk2 _ _ _)) (amtC 7 amt)
  have HK := hide (hk w.heap.size w (by simp <;> omega) ((show Below w.heap.size w _ from (by first | exact Below.a1 _ _ | exact Below.a2 _ _ _ | exact Below.a3 _ _ _ _ | exact Below.a4 _ _ _ _ _ | exact Below.a5 _ _ _ _ _ _ | exact Below.a6 _ _ _ _ _ _ _ | exact Below.a7 _ _ _ _ _ _ _ _)).trans (hb.mono (by simp <;> omega))))
  obtain ⟨c, hc⟩ : ∃ c : Cl, c = amtC 7 amt := ⟨_, rfl⟩
  rw [← hc] at hp y0 y1 y2
  have HV := hide (congrArg (fun c : Cl => Ending.returned c.val) hc)
  rw [← hc]
  clear hb hk hc
  go_wp2_with fail
  exact bodyPost_ret (v := cV c.ty c.num c.tx) (by simp [results, Tryz.results105, go_sem, y0, y1, y2]) rfl ⟨unhide HV, unhide HK⟩
theorem fld8 (r : Ro) (w : World) : Calls Tryz.prog 105 #[.int .i64 8, r.val] w fun e w' => e = .returned (amtC 8 r.amt).val ∧ Below w.heap.size w w' := by
  have d := hide amountAt_any
  obtain ⟨i0, i1, i2, i3, s4, acc, amt, s7, s8⟩ := r
  show Calls Tryz.prog 105 #[_, .agg #[.int .i64 i0, .int .i64 i1, .int .i64 i2, .int .i64 i3, .string s4, .string acc, .int .i64 amt, .string s7, .string s8]] w _
  go_enter Tryz.func105, Tryz.ntmps105
  go_wp2_with fail
  refine (unhide d _ _ _).mono ?_
  rintro e w1 ⟨rfl, hb⟩
  obtain ⟨Y, hp, y0, y1, y2, hk⟩ := put45 (n := w.heap.size + 1) ((hb.block _ (by simp <;> omega)).trans (blk2 _ _ _)) (amtC 8 amt)
  have HK := hide (hk w.heap.size w (by simp <;> omega) ((show Below w.heap.size w _ from (by first | exact Below.a1 _ _ | exact Below.a2 _ _ _ | exact Below.a3 _ _ _ _ | exact Below.a4 _ _ _ _ _ | exact Below.a5 _ _ _ _ _ _ | exact Below.a6 _ _ _ _ _ _ _ | exact Below.a7 _ _ _ _ _ _ _ _)).trans (hb.mono (by simp <;> omega))))
  obtain ⟨c, hc⟩ : ∃ c : Cl, c = amtC 8 amt := ⟨_, rfl⟩
  rw [← hc] at hp y0 y1 y2
  have HV := hide (congrArg (fun c : Cl => Ending.returned c.val) hc)
  rw [← hc]
  clear hb hk hc
  go_wp2_with fail
  exact bodyPost_ret (v := cV c.ty c.num c.tx) (by simp [results, Tryz.results105, go_sem, y0, y1, y2]) rfl ⟨unhide HV, unhide HK⟩
theorem fld9 (r : Ro) (w : World) : Calls Tryz.prog 105 #[.int .i64 9, r.val] w fun e w' => e = .returned (amtC 9 r.amt).val ∧ Below w.heap.size w w' := by
  have d := hide amountAt_any
  obtain ⟨i0, i1, i2, i3, s4, acc, amt, s7, s8⟩ := r
  show Calls Tryz.prog 105 #[_, .agg #[.int .i64 i0, .int .i64 i1, .int .i64 i2, .int .i64 i3, .string s4, .string acc, .int .i64 amt, .string s7, .string s8]] w _
  go_enter Tryz.func105, Tryz.ntmps105
  go_wp2_with fail
  refine (unhide d _ _ _).mono ?_
  rintro e w1 ⟨rfl, hb⟩
  obtain ⟨Y, hp, y0, y1, y2, hk⟩ := put45 (n := w.heap.size + 1) ((hb.block _ (by simp <;> omega)).trans (blk2 _ _ _)) (amtC 9 amt)
  have HK := hide (hk w.heap.size w (by simp <;> omega) ((show Below w.heap.size w _ from (by first | exact Below.a1 _ _ | exact Below.a2 _ _ _ | exact Below.a3 _ _ _ _ | exact Below.a4 _ _ _ _ _ | exact Below.a5 _ _ _ _ _ _ | exact Below.a6 _ _ _ _ _ _ _ | exact Below.a7 _ _ _ _ _ _ _ _)).trans (hb.mono (by simp <;> omega))))
  obtain ⟨c, hc⟩ : ∃ c : Cl, c = amtC 9 amt := ⟨_, rfl⟩
  rw [← hc] at hp y0 y1 y2
  have HV := hide (congrArg (fun c : Cl => Ending.returned c.val) hc)
  rw [← hc]
  clear hb hk hc
  go_wp2_with fail
  exact bodyPost_ret (v := cV c.ty c.num c.tx) (by simp [results, Tryz.results105, go_sem, y0, y1, y2]) rfl ⟨unhide HV, unhide HK⟩
theorem fldD (f : Int) (h1 : ¬ f = 1) (h2 : ¬ f = 2) (h4 : ¬ f = 4) (h5 : ¬ f = 5) (h6 : ¬ f = 6) (h10 : ¬ f = 10) (h11 : ¬ f = 11) (h14 : ¬ f = 14) (h7 : ¬ f = 7) (h8 : ¬ f = 8) (h9 : ¬ f = 9) (r : Ro) (w : World) (hM : Mon w) : Calls Tryz.prog 105 #[.int .i64 f, r.val] w fun e w' => e = .returned (dayC f r.i2).val ∧ Below w.heap.size w w' := by
  have d := hide (fun f n w hM => dayAt_any f n w hM)
  have HM : Hid (∀ o o2, Mon ((w.alloc o).alloc o2)) := fun o o2 => mon1 (mon1 hM o) o2
  have e1 := beqF h1
  have e2 := beqF h2
  have e4 := beqF h4
  have e5 := beqF h5
  have e6 := beqF h6
  have e10 := beqF h10
  have e11 := beqF h11
  have e14 := beqF h14
  have e7 := beqF h7
  have e8 := beqF h8
  have e9 := beqF h9
  clear hM h1 h2 h4 h5 h6 h10 h11 h14 h7 h8 h9
  obtain ⟨i0, i1, i2, i3, s4, acc, amt, s7, s8⟩ := r
  show Calls Tryz.prog 105 #[_, .agg #[.int .i64 i0, .int .i64 i1, .int .i64 i2, .int .i64 i3, .string s4, .string acc, .int .i64 amt, .string s7, .string s8]] w _
  go_enter Tryz.func105, Tryz.ntmps105
  go_wp2_with fail
  refine (unhide d _ _ _ (unhide HM _ _)).mono ?_
  rintro e w1 ⟨rfl, hb⟩
  obtain ⟨Y, hp, y0, y1, y2, hk⟩ := put45 (n := w.heap.size + 1) ((hb.block _ (by simp <;> omega)).trans (blk2 _ _ _)) (dayC f i2)
  have HK := hide (hk w.heap.size w (by simp <;> omega) ((show Below w.heap.size w _ from (by first | exact Below.a1 _ _ | exact Below.a2 _ _ _ | exact Below.a3 _ _ _ _ | exact Below.a4 _ _ _ _ _ | exact Below.a5 _ _ _ _ _ _ | exact Below.a6 _ _ _ _ _ _ _ | exact Below.a7 _ _ _ _ _ _ _ _)).trans (hb.mono (by simp <;> omega))))
  obtain ⟨c, hc⟩ : ∃ c : Cl, c = dayC f i2 := ⟨_, rfl⟩
  rw [← hc] at hp y0 y1 y2
  have HV := hide (congrArg (fun c : Cl => Ending.returned c.val) hc)
  rw [← hc]
  clear hb hk hc
  go_wp2_with fail
  exact bodyPost_ret (v := cV c.ty c.num c.tx) (by simp [results, Tryz.results105, go_sem, y0, y1, y2]) rfl ⟨unhide HV, unhide HK⟩
theorem fld14 (r : Ro) (w : World) (hM : Mx w) (ha : r.acc.size < 4294967281) : Calls Tryz.prog 105 #[.int .i64 14, r.val] w fun e w' => e = .returned (txt (rootT r.acc)).val ∧ Below w.heap.size w w' := by
  have d := hide textOf_any
  obtain ⟨i0, i1, i2, i3, s4, acc, amt, s7, s8⟩ := r
  have c : Hid (∀ o o2, Calls Tryz.prog 125 #[.string acc, .string ⟨#[58]⟩] ((w.alloc o).alloc o2) fun e w' => ∃ s b, e = .returned (.tuple #[.string (rootT acc), .string s, .bool b]) ∧ ∃ n, w' = ((w.alloc o).alloc o2).drewN n) := fun o o2 => by
    obtain ⟨_, m, hm⟩ := hM.below (Below.a2 w o o2) hM.1
    refine (Tryz.strings_Cut acc ⟨#[58]⟩ m _ ha hm).mono ?_
    rintro e w' ⟨rfl, h⟩
    exact ⟨_, _, rfl, h⟩
  clear hM ha
  show Calls Tryz.prog 105 #[_, .agg #[.int .i64 i0, .int .i64 i1, .int .i64 i2, .int .i64 i3, .string s4, .string acc, .int .i64 amt, .string s7, .string s8]] w _
  go_enter Tryz.func105, Tryz.ntmps105
  go_wp2_with fail
  refine (unhide c _ _).mono ?_
  rintro e w0 ⟨s, b, rfl, q, rfl⟩
  go_wp2_with fail
  refine (unhide d _ _).mono ?_
  rintro e w1 ⟨rfl, hb⟩
  obtain ⟨Y, hp, y0, y1, y2, hk⟩ := put45 (n := w.heap.size + 1) ((hb.block _ (by simp <;> omega)).trans (((below_drewN (Below.refl (w.heap.size + 2) _) q).block _ (by omega)).trans (blk2 _ _ _))) (txt (rootT acc))
  have HK := hide (hk w.heap.size w (by simp <;> omega) ((show Below w.heap.size w _ from below_drewN (Below.a2 _ _ _) _).trans (hb.mono (by simp <;> omega))))
  obtain ⟨c, hc⟩ : ∃ c : Cl, c = txt (rootT acc) := ⟨_, rfl⟩
  rw [← hc] at hp y0 y1 y2
  have HV := hide (congrArg (fun c : Cl => Ending.returned c.val) hc)
  rw [← hc]
  clear hb hk hc
  go_wp2_with fail
  exact bodyPost_ret (v := cV c.ty c.num c.tx) (by simp [results, Tryz.results105, go_sem, y0, y1, y2]) rfl ⟨unhide HV, unhide HK⟩
end
theorem fieldAt_any (f : Int) (r : Ro) (w : World) (hM : Mon w) (hX : Mx w) (ha : r.acc.size < 4294967281) : Calls Tryz.prog 105 #[.int .i64 f, r.val] w fun e w' => e = .returned (fwC f r).val ∧ Below w.heap.size w w' := by
  unfold fwC
  by_cases h1 : f = 1
  · subst h1; exact fld1 r w
  rw [if_neg h1]
  by_cases h2 : f = 2
  · subst h2; exact fld2 r w
  rw [if_neg h2]
  by_cases h4 : f = 4
  · subst h4; exact fld4 r w
  rw [if_neg h4]
  by_cases h5 : f = 5
  · subst h5; exact fld5 r w
  rw [if_neg h5]
  by_cases h6 : f = 6
  · subst h6; exact fld6 r w
  rw [if_neg h6]
  by_cases h10 : f = 10
  · subst h10; exact fld10 r w
  rw [if_neg h10]
  by_cases h11 : f = 11
  · subst h11; exact fld11 r w
  rw [if_neg h11]
  by_cases h14 : f = 14
  · subst h14; exact fld14 r w hX ha
  rw [if_neg h14]
  by_cases h7 : f = 7
  · subst h7; exact fld7 r w
  by_cases h8 : f = 8
  · subst h8; exact fld8 r w
  by_cases h9 : f = 9
  · subst h9; exact fld9 r w
  rw [if_neg (by omega)]
  exact fldD f h1 h2 h4 h5 h6 h10 h11 h14 h7 h8 h9 r w hM
end Go.Proofs.YtbenciieenbmeaaGreatDoor
/- cmp.Compare 97, 98, cmp.Or 96; answer: compare 55. -/
namespace Go.Proofs.YtbenciieenbmeaaGreatDoor
open Go Go.Shelf Go.ChangeShapes Go.WideShapes Go.ChangeAt Go.RowKit Go.Maps
set_option linter.unusedVariables false
def cmpI (x y : Int) : Int := if x < y then -1 else if x > y then 1 else 0
def cmpS (x y : List UInt8) : Int := if x < y then -1 else if x = y then 0 else 1
theorem cmpI_neg (x y : Int) : cmpI x y < 0 ↔ x < y := by
  unfold cmpI
  by_cases h1 : x < y
  · simp [h1]
  · by_cases h2 : x > y <;> simp [h1, h2]
theorem cmpI_zero (x y : Int) : cmpI x y = 0 ↔ x = y := by
  unfold cmpI
  by_cases h1 : x < y
  · simp [h1]; omega
  · by_cases h2 : x > y
    · simp [h1, h2]; omega
    · simp [h1, h2]; omega
theorem slt_irrefl (x : List UInt8) : ¬ x < x := List.lt_irrefl x
theorem slt_trans {x y z : List UInt8} (h1 : x < y) (h2 : y < z) : x < z := List.lt_trans h1 h2
theorem slt_tri {x y : List UInt8} (h1 : ¬ x < y) (h2 : ¬ y < x) : x = y := by
  rw [List.not_lt] at h1 h2
  exact List.le_antisymm h2 h1
theorem cmpS_neg (x y : List UInt8) : cmpS x y < 0 ↔ x < y := by
  unfold cmpS
  by_cases h1 : x < y
  · simp [h1]
  · by_cases h2 : x = y
    · rw [if_neg h1, if_pos h2]; simp [h1]
    · rw [if_neg h1, if_neg h2]; simp [h1]
theorem nan_any (x : Int) (w : World) : Calls Tryz.prog 116 #[.int .i64 x] w fun e w' => e = .returned (.bool false) ∧ w' = w := by
  have hx : (x != x) = false := by simp
  go_enter Tryz.func116, Tryz.ntmps116
  go_wp2_with fail
  go_ret
  exact ⟨rfl, rfl⟩
theorem nans_any (x : ByteArray) (w : World) : Calls Tryz.prog 117 #[.string x] w fun e w' => e = .returned (.bool false) ∧ w' = w := by
  have hx : (x.toList == x.toList) = true := by simp
  go_enter Tryz.func117, Tryz.ntmps117
  go_wp2_with fail
  go_ret
  exact ⟨rfl, rfl⟩
theorem cmp_any (x y : Int) (w : World) : Calls Tryz.prog 97 #[.int .i64 x, .int .i64 y] w fun e w' => e = .returned (.int .i64 (cmpI x y)) ∧ w' = w := by
  have d1 := hide (nan_any x); have d2 := hide (nan_any y)
  by_cases h1 : x < y
  · rw [cmpI, if_pos h1]
    go_enter Tryz.func97, Tryz.ntmps97
    go_wp2_with fail
    refine (unhide d1 _).mono ?_
    rintro e w' ⟨rfl, rfl⟩
    go_wp2_with fail
    refine (unhide d2 _).mono ?_
    rintro e w' ⟨rfl, rfl⟩
    go_wp2_with fail
    go_ret
    exact ⟨rfl, rfl⟩
  · by_cases h2 : x > y
    · rw [cmpI, if_neg h1, if_pos h2]
      go_enter Tryz.func97, Tryz.ntmps97
      go_wp2_with fail
      refine (unhide d1 _).mono ?_
      rintro e w' ⟨rfl, rfl⟩
      go_wp2_with fail
      refine (unhide d2 _).mono ?_
      rintro e w' ⟨rfl, rfl⟩
      go_wp2_with fail
      go_ret
      exact ⟨rfl, rfl⟩
    · rw [cmpI, if_neg h1, if_neg h2]
      go_enter Tryz.func97, Tryz.ntmps97
      go_wp2_with fail
      refine (unhide d1 _).mono ?_
      rintro e w' ⟨rfl, rfl⟩
      go_wp2_with fail
      refine (unhide d2 _).mono ?_
      rintro e w' ⟨rfl, rfl⟩
      go_wp2_with fail
      go_ret
      exact ⟨rfl, rfl⟩
theorem cmps_any (x y : ByteArray) (w : World) : Calls Tryz.prog 98 #[.string x, .string y] w fun e w' => e = .returned (.int .i64 (cmpS x.data.toList y.data.toList)) ∧ w' = w := by
  have d1 := hide (nans_any x); have d2 := hide (nans_any y)
  have e1 : Op.bytesLess x.toList y.toList = decide (x.data.toList < y.data.toList) := by rw [Go.Proofs.bytesLess_eq, ByteArray.toList_eq, ByteArray.toList_eq]
  have e2 : (x.toList == y.toList) = decide (x.data.toList = y.data.toList) := by rw [ByteArray.toList_eq, ByteArray.toList_eq]; exact Bool.eq_iff_iff.2 (by rw [beq_iff_eq, decide_eq_true_iff])
  by_cases h1 : x.data.toList < y.data.toList
  · rw [cmpS, if_pos h1]
    rw [decide_eq_true h1] at e1
    clear e2 h1
    go_enter Tryz.func98, Tryz.ntmps98
    go_wp2_with fail
    refine (unhide d1 _).mono ?_
    rintro e w' ⟨rfl, rfl⟩
    go_wp2_with fail
    refine (unhide d2 _).mono ?_
    rintro e w' ⟨rfl, rfl⟩
    go_wp2_with fail
    go_ret
    exact ⟨rfl, rfl⟩
  · rw [decide_eq_false h1] at e1
    by_cases h2 : x.data.toList = y.data.toList
    · rw [cmpS, if_neg h1, if_pos h2]
      rw [decide_eq_true h2] at e2
      clear h1 h2
      go_enter Tryz.func98, Tryz.ntmps98
      go_wp2_with fail
      refine (unhide d1 _).mono ?_
      rintro e w' ⟨rfl, rfl⟩
      go_wp2_with fail
      refine (unhide d2 _).mono ?_
      rintro e w' ⟨rfl, rfl⟩
      go_wp2_with fail
      go_ret
      exact ⟨rfl, rfl⟩
    · rw [cmpS, if_neg h1, if_neg h2]
      rw [decide_eq_false h2] at e2
      clear h1 h2
      go_enter Tryz.func98, Tryz.ntmps98
      go_wp2_with fail
      refine (unhide d1 _).mono ?_
      rintro e w' ⟨rfl, rfl⟩
      go_wp2_with fail
      refine (unhide d2 _).mono ?_
      rintro e w' ⟨rfl, rfl⟩
      go_wp2_with fail
      go_ret
      exact ⟨rfl, rfl⟩
def or2 (a b : Int) : Int := if a ≠ 0 then a else b
set_option maxHeartbeats 2000000 in
theorem or_any {W : World} {g : Nat} {a b : Int} (h0 : W.cell? ⟨g, 0, none⟩ = some (.int .i64 a)) (h1 : W.cell? ⟨g, 1, none⟩ = some (.int .i64 b)) :
    Calls Tryz.prog 96 #[.slice (some ⟨g, 0, none⟩) 2 2] W fun e w' => e = .returned (.int .i64 (or2 a b)) ∧ w' = W := by
  have HO : Hid (∀ z, z = or2 a b → (Ending.returned (.int .i64 z) = .returned (.int .i64 (or2 a b)))) := fun z h => by rw [h]
  go_enter Tryz.func96, Tryz.ntmps96
  go_wp2_with fail
  go_loopw [8] (fun v8 wr => ∃ (j : Nat), v8 = .int .i64 j ∧ j ≤ 2 ∧ Hid (wr = W) ∧ Hid ((0 < j → a = 0) ∧ (1 < j → b = 0))) (fun v8 _ => 2 - (intOf v8).toNat)
  case atStart => exact ⟨0, rfl, by omega, rfl, by omega, by omega⟩
  case round =>
    obtain ⟨j, rfl, hj, hw, hz⟩ := hrel
    have hw := unhide hw
    subst hw
    have : j = 0 ∨ j = 1 ∨ j = 2 := by omega
    rcases this with rfl | rfl | rfl
    · by_cases e : a = 0
      · have HZ : Hid ((0 < 1 → a = 0) ∧ (1 < 1 → b = 0)) := ⟨fun _ => e, by omega⟩
        have hb : (a != 0) = false := by simp [e]
        go_wp2_with fail
        exact ⟨⟨1, rfl, by omega, trivial, unhide HZ⟩, by simp [intOf]⟩
      · have hb : (a != 0) = true := by simp [e]
        have HF := hide (unhide HO a (by unfold or2; rw [if_pos e]))
        go_wp2_with fail
        go_ret
        exact ⟨unhide HF, rfl⟩
    · by_cases e : b = 0
      · have HZ : Hid ((0 < 2 → a = 0) ∧ (1 < 2 → b = 0)) := ⟨fun _ => (unhide hz).1 (by omega), fun _ => e⟩
        have hb : (b != 0) = false := by simp [e]
        go_wp2_with fail
        exact ⟨⟨2, rfl, by omega, trivial, unhide HZ⟩, by simp [intOf]⟩
      · have hb : (b != 0) = true := by simp [e]
        have HF := hide (unhide HO b (by unfold or2; rw [if_neg (fun h => h ((unhide hz).1 (by omega)))]))
        go_wp2_with fail
        go_ret
        exact ⟨unhide HF, rfl⟩
    · have HF := hide (unhide HO 0 (by unfold or2; rw [if_neg (fun h => h ((unhide hz).1 (by omega))), (unhide hz).2 (by omega)]))
      go_wp2_with fail
      go_ret
      exact ⟨unhide HF, rfl⟩
/-- below 0, 0 or above: as cells stand to each other -/
def cmpC (x y : Cl) : Int := or2 (cmpI x.num y.num) (cmpS x.tx.data.toList y.tx.data.toList)
/-- the world behind a comparison -/
def cmpW (x y : Cl) (W : World) : World := (((W.alloc (cO x.ty x.num x.tx)).alloc (cO y.ty y.num y.tx)).drew).alloc (.cells #[.int .i64 (cmpI x.num y.num), .int .i64 (cmpS x.tx.data.toList y.tx.data.toList)] 3)
theorem cmpW_below (x y : Cl) (W : World) : Below W.heap.size W (cmpW x y W) := (below_drewN (Below.a2 W _ _) 1).alloc (by show W.heap.size ≤ ((W.alloc _).alloc _).heap.size; simp; omega) _
set_option maxHeartbeats 4000000 in
set_option maxRecDepth 100000 in
theorem compare_any (x y : Cl) (W : World) : Calls Tryz.prog 55 #[x.val, y.val] W fun e w' => e = .returned (.int .i64 (cmpC x y)) ∧ w' = cmpW x y W := by
  have d1 := hide (cmp_any x.num y.num)
  have d3 := hide (cmps_any x.tx y.tx)
  obtain ⟨o1, ho1⟩ : ∃ o1, o1 = cO x.ty x.num x.tx := ⟨_, rfl⟩
  obtain ⟨o2, ho2⟩ : ∃ o2, o2 = cO y.ty y.num y.tx := ⟨_, rfl⟩
  obtain ⟨A, hA⟩ : ∃ A, A = ((W.alloc o1).alloc o2).drew := ⟨_, rfl⟩
  have hb1 : A.heap[W.heap.size]? = some o1 := by rw [hA]; exact (Below.heap_alloc _ _ _ (by simp)).trans (heap_new _ _)
  have hb2 : A.heap[W.heap.size + 1]? = some o2 := by rw [hA]; exact blk2 W o1 o2
  obtain ⟨r1, hr1⟩ : ∃ r1, r1 = cmpI x.num y.num := ⟨_, rfl⟩
  obtain ⟨r3, hr3⟩ : ∃ r3, r3 = cmpS x.tx.data.toList y.tx.data.toList := ⟨_, rfl⟩
  rw [← hr1] at d1
  rw [← hr3] at d3
  obtain ⟨B, hB⟩ : ∃ B, B = A.alloc (.cells #[.int .i64 r1, .int .i64 r3] 3) := ⟨_, rfl⟩
  have hb3 : B.heap[A.heap.size]? = some (.cells #[.int .i64 r1, .int .i64 r3] 3 (0, 0)) := by rw [hB]; exact heap_new _ _
  have dO := hide (or_any (W := B) (g := A.heap.size) (a := r1) (b := r3) (by simp [World.cell?, hb3]) (by simp [World.cell?, hb3]))
  have hv : or2 r1 r3 = cmpC x y := by rw [hr1, hr3]; rfl
  rw [hv] at dO
  have a1 : A.cell? ⟨W.heap.size, 1, none⟩ = some (.int .i64 x.num) := by simp [World.cell?, hb1, ho1]
  have a2 : A.cell? ⟨W.heap.size, 2, none⟩ = some (.string x.tx) := by simp [World.cell?, hb1, ho1]
  have b1 : A.cell? ⟨W.heap.size + 1, 1, none⟩ = some (.int .i64 y.num) := by simp [World.cell?, hb2, ho2]
  have b2 : A.cell? ⟨W.heap.size + 1, 2, none⟩ = some (.string y.tx) := by simp [World.cell?, hb2, ho2]
  have hAs : A.heap.size = W.heap.size + 2 := by rw [hA]; simp
  have HEND : Hid (B = cmpW x y W) := by show B = _; rw [hB, hA, hr1, hr3, ho1, ho2]; rfl
  have HA : Hid (A = ((W.alloc o1).alloc o2).drew) := hA
  rw [ho1, ho2] at HA
  have HB := hide hB; have HAs := hide hAs
  show Calls Tryz.prog 55 #[cV x.ty x.num x.tx, cV y.ty y.num y.tx] W _
  clear hA hB hb1 hb2 hb3 hv hr1 hr3 ho1 ho2 hAs
  go_enter Tryz.func55, Tryz.ntmps55
  go_wp2_with fail
  refine wp_region_last (n := 13) (S := fun W' => W'.cell? ⟨W.heap.size, 1, none⟩ = some (.int .i64 x.num) ∧ W'.cell? ⟨W.heap.size, 2, none⟩ = some (.string x.tx) ∧ W'.cell? ⟨W.heap.size + 1, 1, none⟩ = some (.int .i64 y.num) ∧ W'.cell? ⟨W.heap.size + 1, 2, none⟩ = some (.string y.tx)) (by kernel_rfl) (by rw [← unhide HA]; exact ⟨a1, a2, b1, b2⟩) (fun hHeld => ?_)
  rw [← unhide HA] at hHeld ⊢
  refine tkW 0 ?_; refine tkN 1 ?_; refine tkW 2 ?_; refine tkN 3 ?_; refine tkW 5 ?_; refine tkN 6 ?_; refine tkW 7 ?_; refine tkN 8 ?_
  refine wpAnyL_one (i := 4) (by kernel_rfl) rfl (fun KK hK => ?_)
  go_simp
  go_wp2_with (first | (go_at_call 97; refine (unhide d1 _).mono ?_; rintro e w2 ⟨rfl, hw⟩; rw [hw]; clear hw w2))
  refine hK.out _ _ (by exact ⟨a1, a2, b1, b2⟩) (fun hHeld => ?_)
  clear hK KK
  refine wpAnyL_one (i := 9) (by kernel_rfl) rfl (fun KK hK => ?_)
  go_simp
  go_wp2_with (first | (go_at_call 98; refine (unhide d3 _).mono ?_; rintro e w2 ⟨rfl, hw⟩; rw [hw]; clear hw w2))
  refine hK.out _ _ (by exact ⟨a1, a2, b1, b2⟩) (fun hHeld => ?_)
  clear hK KK
  have hAs := unhide HAs
  have B3 : ∀ (b i : Nat) v, b < W.heap.size + 2 → A.cell? ⟨b, i, none⟩ = some v → B.cell? ⟨b, i, none⟩ = some v := fun b i v hb h => by
    rw [unhide HB, World.cell?_alloc_lt _ _ _ (by show b < A.heap.size; omega)]; exact h
  have SB := (⟨B3 _ _ _ (by omega) a1, B3 _ _ _ (by omega) a2, B3 _ _ _ (by omega) b1, B3 _ _ _ (by omega) b2⟩ : B.cell? ⟨W.heap.size, 1, none⟩ = some (.int .i64 x.num) ∧ B.cell? ⟨W.heap.size, 2, none⟩ = some (.string x.tx) ∧ B.cell? ⟨W.heap.size + 1, 1, none⟩ = some (.int .i64 y.num) ∧ B.cell? ⟨W.heap.size + 1, 2, none⟩ = some (.string y.tx))
  clear B3 hAs
  refine wpAnyL_one (i := 10) (by kernel_rfl) rfl (fun KK hK => ?_)
  go_simp
  rw [← unhide HB]
  refine hK.out _ _ (by exact SB) (fun hHeld => ?_)
  clear hK KK
  refine wpAnyL_one (i := 11) (by kernel_rfl) rfl (fun KK hK => ?_)
  go_simp
  go_wp2_with (first | (go_at_call 96; refine (unhide dO).mono ?_; rintro e w2 ⟨rfl, hw⟩; rw [hw]; clear hw w2))
  refine hK.out _ _ (by exact SB) (fun hHeld => ?_)
  clear hK KK
  refine tkW 12 ?_
  refine wpAnyL_done (by kernel_rfl) ?_
  go_wp2_with fail
  go_ret
  exact ⟨rfl, unhide HEND⟩
end Go.Proofs.YtbenciieenbmeaaGreatDoor
