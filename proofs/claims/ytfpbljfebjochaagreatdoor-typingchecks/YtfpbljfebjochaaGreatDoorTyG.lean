/- typing: isDay 71, narrow 42. -/
import Derived.Test.YtfpbljfebjochaaGreatDoorTyF
import Derived.Test.YtfpbljfebjochaaGreatDoorDayB
namespace Go.Proofs.YtfpbljfebjochaaGreatDoor
open Go Go.Shelf Go.ChangeShapes Go.WideShapes Go.ChangeAt Go.RowKit Go.Maps
set_option linter.unusedVariables false
abbrev db (t : TypeId) (y m d : Int) : Obj := .cells #[.int .i64 y, .int .i64 m, .int .i64 d] t
set_option maxHeartbeats 1000000 in
theorem dto_ok (y m d n : Nat) (w : World) (hM : Mon w) (h : Dat y m d n) :
    Calls Tryz.prog 218 #[.int .i64 n] w fun e w' => e = .returned (.tuple #[.agg #[.int .i64 y, .int .i64 m, .int .i64 d], .int .i64 0]) ∧ w' = ((w.alloc (db 286 y m d)).alloc (db 286 y m d)).alloc (db 286 y m d) := by
  have h6 := h.lo
  have h7 := h.hi
  have HM := hide hM
  have H := hide h
  clear h hM
  go_enter Tryz.func218, Tryz.ntmps218
  go_wp2_with (first | (go_at_call 220; refine (isday_yes _ _ (by omega) (by omega)).mono ?_; rintro e w' ⟨rfl, hw⟩; subst hw) | (go_at_call 221; refine (date_any y m d n _ (mon1 (unhide HM) _) (unhide H)).mono ?_; rintro e w' ⟨rfl, hw⟩; subst hw))
  exact bodyPost_ret (v := .tuple #[.agg #[.int .i64 y, .int .i64 m, .int .i64 d], .int .i64 0]) (by simp [results, Tryz.results218, go_sem]) rfl ⟨rfl, rfl⟩
set_option maxHeartbeats 1000000 in
theorem dto_bad (n : Int) (w : World) (h : n < 1 ∨ 3652059 < n) :
    Calls Tryz.prog 218 #[.int .i64 n] w fun e w' => e = .returned (.tuple #[.agg #[.int .i64 0, .int .i64 0, .int .i64 0], .int .i64 20]) ∧ w' = w.alloc (db 286 0 0 0) := by
  have H := hide h
  clear h
  go_enter Tryz.func218, Tryz.ntmps218
  go_wp2_with (first | (go_at_call 220; refine (isday_no _ _ (unhide H)).mono ?_; rintro e w' ⟨rfl, hw⟩; subst hw))
  exact bodyPost_ret (v := .tuple #[.agg #[.int .i64 0, .int .i64 0, .int .i64 0], .int .i64 20]) (by simp [results, Tryz.results218, go_sem]) rfl ⟨rfl, rfl⟩
/-- is a number a day? -/
def dayB (n : Int) : Bool := decide (1 ≤ n) && decide (n ≤ 3652059)
theorem Below.a1 (w : World) (o : Obj) : Below w.heap.size w (w.alloc o) := (Below.refl _ w).alloc (Nat.le_refl _) o
theorem Below.a2 (w : World) (o o2 : Obj) : Below w.heap.size w ((w.alloc o).alloc o2) := (Below.a1 w o).alloc (by simp) o2
theorem tisDay_any {w : World} (hM : Mon w) (n : Int) : Calls Tryz.prog 194 #[.int .i64 n] w fun e w' => e = .returned (.bool (dayB n)) ∧ Below w.heap.size w w' := by
  by_cases h : 1 ≤ n ∧ n ≤ 3652059
  · have e : dayB n = true := by unfold dayB; rw [Bool.and_eq_true, decide_eq_true_iff, decide_eq_true_iff]; exact h
    rw [e]
    obtain ⟨k, rfl⟩ : ∃ k : Nat, n = k := ⟨n.toNat, by omega⟩
    obtain ⟨y, m, d, hd⟩ := dat_ex k (by omega) (by omega)
    have D := hide (dto_ok y m d k w hM hd)
    have HB : Hid (Below w.heap.size w (((w.alloc (db 286 y m d)).alloc (db 286 y m d)).alloc (db 286 y m d))) := ((Below.a2 w _ _).alloc (by simp; omega) _)
    obtain ⟨W, hW⟩ : ∃ W, W = ((w.alloc (db 286 y m d)).alloc (db 286 y m d)).alloc (db 286 y m d) := ⟨_, rfl⟩
    rw [← hW] at D HB
    clear hW hM hd h e
    go_enter Tryz.func194, Tryz.ntmps194
    go_wp2_with fail
    refine (unhide D).mono ?_
    rintro e w1 ⟨rfl, hw⟩
    rw [hw]; clear hw w1
    go_wp2_with fail
    go_ret
    exact ⟨rfl, (unhide HB).alloc (unhide HB).size _⟩
  · have e : dayB n = false := by unfold dayB; rw [Bool.and_eq_false_iff, decide_eq_false_iff_not, decide_eq_false_iff_not]; omega
    rw [e]
    have D := hide (dto_bad n w (by omega))
    have HB : Hid (Below w.heap.size w (w.alloc (db 286 0 0 0))) := Below.a1 w _
    obtain ⟨W, hW⟩ : ∃ W, W = w.alloc (db 286 0 0 0) := ⟨_, rfl⟩
    rw [← hW] at D HB
    clear hW hM h e
    go_enter Tryz.func194, Tryz.ntmps194
    go_wp2_with fail
    refine (unhide D).mono ?_
    rintro e w1 ⟨rfl, hw⟩
    rw [hw]; clear hw w1
    go_wp2_with fail
    go_ret
    exact ⟨rfl, (unhide HB).alloc (unhide HB).size _⟩
/-- a node without what its Op does not use -/
inductive Sh where
  | leaf (t : Int)
  | single (op l : Int)
  | pair (op l r : Int)
  | no
def Sh.val : Sh → Value
  | .leaf t => .iface 243 (.agg #[.int .i64 t])
  | .single op l => .iface 245 (.agg #[.int .i64 op, .int .i64 l])
  | .pair op l r => .iface 247 (.agg #[.int .i64 op, .int .i64 l, .int .i64 r])
  | .no => .nilIface
def narS (x : Nd) : Sh :=
  if x.op = 16 then .leaf (fldS x.field).2 else if x.op = 17 then .leaf 1 else if x.op = 18 then .leaf 2 else if x.op = 19 then .leaf (tif (dayB x.num) 3)
  else if x.op = 20 then .leaf (tif (x.num == 0 || x.num == 1) 4) else if x.op = 3 ∨ x.op = 15 then .single x.op x.left else if 1 ≤ x.op ∧ x.op ≤ 14 then .pair x.op x.left x.right else .no
set_option maxRecDepth 100000
set_option maxHeartbeats 2000000
theorem nar16 {w : World} (l r f m : Int) (s : ByteArray) (hF : Flds w) : Calls Tryz.prog 132 #[.agg #[.int .i64 16, .int .i64 l, .int .i64 r, .int .i64 f, .int .i64 m, .string s]] w fun e w' => e = .returned (.iface 243 (.agg #[.int .i64 (fldS f).2])) ∧ Below w.heap.size w w' := by
  have HB : Hid (∀ o, Below w.heap.size w (w.alloc o)) := Below.a1 w
  have d := hide (fun o => field_any (hF.below (Below.a1 w o)) f)
  obtain ⟨a, ha⟩ : ∃ a, a = (fldS f).1 := ⟨_, rfl⟩
  obtain ⟨t, ht⟩ : ∃ t, t = (fldS f).2 := ⟨_, rfl⟩
  rw [← ha, ← ht] at d
  rw [← ht]
  clear hF ha ht
  go_enter Tryz.func132, Tryz.ntmps132
  go_wp2_with fail
  refine (unhide d _).mono ?_
  rintro e w1 ⟨rfl, q, hw⟩
  have HW := hide hw
  clear hw
  go_wp2_with fail
  go_ret
  refine ⟨rfl, ?_⟩
  rw [unhide HW]
  exact below_drewN (unhide HB _) _
theorem nar17 {w : World} (l r f m : Int) (s : ByteArray) : Calls Tryz.prog 132 #[.agg #[.int .i64 17, .int .i64 l, .int .i64 r, .int .i64 f, .int .i64 m, .string s]] w fun e w' => e = .returned (.iface 243 (.agg #[.int .i64 1])) ∧ Below w.heap.size w w' := by
  have HB : Hid (∀ o, Below w.heap.size w (w.alloc o)) := Below.a1 w
  go_enter Tryz.func132, Tryz.ntmps132
  go_wp2_with fail
  go_ret
  exact ⟨rfl, unhide HB _⟩
theorem nar18 {w : World} (l r f m : Int) (s : ByteArray) : Calls Tryz.prog 132 #[.agg #[.int .i64 18, .int .i64 l, .int .i64 r, .int .i64 f, .int .i64 m, .string s]] w fun e w' => e = .returned (.iface 243 (.agg #[.int .i64 2])) ∧ Below w.heap.size w w' := by
  have HB : Hid (∀ o, Below w.heap.size w (w.alloc o)) := Below.a1 w
  go_enter Tryz.func132, Tryz.ntmps132
  go_wp2_with fail
  go_ret
  exact ⟨rfl, unhide HB _⟩
theorem nar19 {w : World} (l r f m : Int) (s : ByteArray) (hM : Mon w) : Calls Tryz.prog 132 #[.agg #[.int .i64 19, .int .i64 l, .int .i64 r, .int .i64 f, .int .i64 m, .string s]] w fun e w' => e = .returned (.iface 243 (.agg #[.int .i64 (tif (dayB m) 3)])) ∧ Below w.heap.size w w' := by
  have HB : Hid (∀ o, Below w.heap.size w (w.alloc o)) := Below.a1 w
  have d := hide (fun o => tisDay_any (hM.below (Below.a1 w o)) m)
  have d2 := hide typeIf_any
  obtain ⟨a, ha⟩ : ∃ a, a = dayB m := ⟨_, rfl⟩
  rw [← ha] at d ⊢
  clear hM ha
  go_enter Tryz.func132, Tryz.ntmps132
  go_wp2_with fail
  refine (unhide d _).mono ?_
  rintro e w1 ⟨rfl, hw⟩
  have HW := hide hw
  clear hw
  go_wp2_with fail
  refine (unhide d2 _ _ _).mono ?_
  rintro e w2 ⟨rfl, hw⟩
  rw [hw]; clear hw w2
  go_wp2_with fail
  go_ret
  exact ⟨rfl, (unhide HB _).trans ((unhide HW).mono (by simp))⟩
theorem nar20 {w : World} (l r f m : Int) (s : ByteArray) : Calls Tryz.prog 132 #[.agg #[.int .i64 20, .int .i64 l, .int .i64 r, .int .i64 f, .int .i64 m, .string s]] w fun e w' => e = .returned (.iface 243 (.agg #[.int .i64 (tif (m == 0 || m == 1) 4)])) ∧ Below w.heap.size w w' := by
  have HB : Hid (∀ o, Below w.heap.size w (w.alloc o)) := Below.a1 w
  have d2 := hide typeIf_any
  by_cases h : m = 0
  · subst h
    go_enter Tryz.func132, Tryz.ntmps132
    go_wp2_with fail
    refine (unhide d2 true _ _).mono ?_
    rintro e w2 ⟨rfl, hw⟩
    rw [hw]; clear hw w2
    go_wp2_with fail
    go_ret
    exact ⟨rfl, unhide HB _⟩
  · have h' := beqF h
    have e1 : (m == 0 || m == 1) = (m == 1) := by rw [h']; rfl
    rw [e1]
    go_enter Tryz.func132, Tryz.ntmps132
    go_wp2_with fail
    refine (unhide d2 _ _ _).mono ?_
    rintro e w2 ⟨rfl, hw⟩
    rw [hw]; clear hw w2
    go_wp2_with fail
    go_ret
    exact ⟨rfl, unhide HB _⟩
theorem nar3 {w : World} (l r f m : Int) (s : ByteArray) : Calls Tryz.prog 132 #[.agg #[.int .i64 3, .int .i64 l, .int .i64 r, .int .i64 f, .int .i64 m, .string s]] w fun e w' => e = .returned (.iface 245 (.agg #[.int .i64 3, .int .i64 l])) ∧ Below w.heap.size w w' := by
  have HB : Hid (∀ o, Below w.heap.size w (w.alloc o)) := Below.a1 w
  go_enter Tryz.func132, Tryz.ntmps132
  go_wp2_with fail
  go_ret
  exact ⟨rfl, unhide HB _⟩
theorem nar15 {w : World} (l r f m : Int) (s : ByteArray) : Calls Tryz.prog 132 #[.agg #[.int .i64 15, .int .i64 l, .int .i64 r, .int .i64 f, .int .i64 m, .string s]] w fun e w' => e = .returned (.iface 245 (.agg #[.int .i64 15, .int .i64 l])) ∧ Below w.heap.size w w' := by
  have HB : Hid (∀ o, Below w.heap.size w (w.alloc o)) := Below.a1 w
  go_enter Tryz.func132, Tryz.ntmps132
  go_wp2_with fail
  go_ret
  exact ⟨rfl, unhide HB _⟩
theorem nar1 {w : World} (l r f m : Int) (s : ByteArray) : Calls Tryz.prog 132 #[.agg #[.int .i64 1, .int .i64 l, .int .i64 r, .int .i64 f, .int .i64 m, .string s]] w fun e w' => e = .returned (.iface 247 (.agg #[.int .i64 1, .int .i64 l, .int .i64 r])) ∧ Below w.heap.size w w' := by
  have HB : Hid (∀ o, Below w.heap.size w (w.alloc o)) := Below.a1 w
  go_enter Tryz.func132, Tryz.ntmps132
  go_wp2_with fail
  go_ret
  exact ⟨rfl, unhide HB _⟩
theorem nar2 {w : World} (l r f m : Int) (s : ByteArray) : Calls Tryz.prog 132 #[.agg #[.int .i64 2, .int .i64 l, .int .i64 r, .int .i64 f, .int .i64 m, .string s]] w fun e w' => e = .returned (.iface 247 (.agg #[.int .i64 2, .int .i64 l, .int .i64 r])) ∧ Below w.heap.size w w' := by
  have HB : Hid (∀ o, Below w.heap.size w (w.alloc o)) := Below.a1 w
  go_enter Tryz.func132, Tryz.ntmps132
  go_wp2_with fail
  go_ret
  exact ⟨rfl, unhide HB _⟩
theorem nar4 {w : World} (l r f m : Int) (s : ByteArray) : Calls Tryz.prog 132 #[.agg #[.int .i64 4, .int .i64 l, .int .i64 r, .int .i64 f, .int .i64 m, .string s]] w fun e w' => e = .returned (.iface 247 (.agg #[.int .i64 4, .int .i64 l, .int .i64 r])) ∧ Below w.heap.size w w' := by
  have HB : Hid (∀ o, Below w.heap.size w (w.alloc o)) := Below.a1 w
  go_enter Tryz.func132, Tryz.ntmps132
  go_wp2_with fail
  go_ret
  exact ⟨rfl, unhide HB _⟩
theorem nar5 {w : World} (l r f m : Int) (s : ByteArray) : Calls Tryz.prog 132 #[.agg #[.int .i64 5, .int .i64 l, .int .i64 r, .int .i64 f, .int .i64 m, .string s]] w fun e w' => e = .returned (.iface 247 (.agg #[.int .i64 5, .int .i64 l, .int .i64 r])) ∧ Below w.heap.size w w' := by
  have HB : Hid (∀ o, Below w.heap.size w (w.alloc o)) := Below.a1 w
  go_enter Tryz.func132, Tryz.ntmps132
  go_wp2_with fail
  go_ret
  exact ⟨rfl, unhide HB _⟩
theorem nar6 {w : World} (l r f m : Int) (s : ByteArray) : Calls Tryz.prog 132 #[.agg #[.int .i64 6, .int .i64 l, .int .i64 r, .int .i64 f, .int .i64 m, .string s]] w fun e w' => e = .returned (.iface 247 (.agg #[.int .i64 6, .int .i64 l, .int .i64 r])) ∧ Below w.heap.size w w' := by
  have HB : Hid (∀ o, Below w.heap.size w (w.alloc o)) := Below.a1 w
  go_enter Tryz.func132, Tryz.ntmps132
  go_wp2_with fail
  go_ret
  exact ⟨rfl, unhide HB _⟩
theorem nar7 {w : World} (l r f m : Int) (s : ByteArray) : Calls Tryz.prog 132 #[.agg #[.int .i64 7, .int .i64 l, .int .i64 r, .int .i64 f, .int .i64 m, .string s]] w fun e w' => e = .returned (.iface 247 (.agg #[.int .i64 7, .int .i64 l, .int .i64 r])) ∧ Below w.heap.size w w' := by
  have HB : Hid (∀ o, Below w.heap.size w (w.alloc o)) := Below.a1 w
  go_enter Tryz.func132, Tryz.ntmps132
  go_wp2_with fail
  go_ret
  exact ⟨rfl, unhide HB _⟩
theorem nar8 {w : World} (l r f m : Int) (s : ByteArray) : Calls Tryz.prog 132 #[.agg #[.int .i64 8, .int .i64 l, .int .i64 r, .int .i64 f, .int .i64 m, .string s]] w fun e w' => e = .returned (.iface 247 (.agg #[.int .i64 8, .int .i64 l, .int .i64 r])) ∧ Below w.heap.size w w' := by
  have HB : Hid (∀ o, Below w.heap.size w (w.alloc o)) := Below.a1 w
  go_enter Tryz.func132, Tryz.ntmps132
  go_wp2_with fail
  go_ret
  exact ⟨rfl, unhide HB _⟩
theorem nar9 {w : World} (l r f m : Int) (s : ByteArray) : Calls Tryz.prog 132 #[.agg #[.int .i64 9, .int .i64 l, .int .i64 r, .int .i64 f, .int .i64 m, .string s]] w fun e w' => e = .returned (.iface 247 (.agg #[.int .i64 9, .int .i64 l, .int .i64 r])) ∧ Below w.heap.size w w' := by
  have HB : Hid (∀ o, Below w.heap.size w (w.alloc o)) := Below.a1 w
  go_enter Tryz.func132, Tryz.ntmps132
  go_wp2_with fail
  go_ret
  exact ⟨rfl, unhide HB _⟩
theorem nar10 {w : World} (l r f m : Int) (s : ByteArray) : Calls Tryz.prog 132 #[.agg #[.int .i64 10, .int .i64 l, .int .i64 r, .int .i64 f, .int .i64 m, .string s]] w fun e w' => e = .returned (.iface 247 (.agg #[.int .i64 10, .int .i64 l, .int .i64 r])) ∧ Below w.heap.size w w' := by
  have HB : Hid (∀ o, Below w.heap.size w (w.alloc o)) := Below.a1 w
  go_enter Tryz.func132, Tryz.ntmps132
  go_wp2_with fail
  go_ret
  exact ⟨rfl, unhide HB _⟩
theorem nar11 {w : World} (l r f m : Int) (s : ByteArray) : Calls Tryz.prog 132 #[.agg #[.int .i64 11, .int .i64 l, .int .i64 r, .int .i64 f, .int .i64 m, .string s]] w fun e w' => e = .returned (.iface 247 (.agg #[.int .i64 11, .int .i64 l, .int .i64 r])) ∧ Below w.heap.size w w' := by
  have HB : Hid (∀ o, Below w.heap.size w (w.alloc o)) := Below.a1 w
  go_enter Tryz.func132, Tryz.ntmps132
  go_wp2_with fail
  go_ret
  exact ⟨rfl, unhide HB _⟩
theorem nar12 {w : World} (l r f m : Int) (s : ByteArray) : Calls Tryz.prog 132 #[.agg #[.int .i64 12, .int .i64 l, .int .i64 r, .int .i64 f, .int .i64 m, .string s]] w fun e w' => e = .returned (.iface 247 (.agg #[.int .i64 12, .int .i64 l, .int .i64 r])) ∧ Below w.heap.size w w' := by
  have HB : Hid (∀ o, Below w.heap.size w (w.alloc o)) := Below.a1 w
  go_enter Tryz.func132, Tryz.ntmps132
  go_wp2_with fail
  go_ret
  exact ⟨rfl, unhide HB _⟩
theorem nar13 {w : World} (l r f m : Int) (s : ByteArray) : Calls Tryz.prog 132 #[.agg #[.int .i64 13, .int .i64 l, .int .i64 r, .int .i64 f, .int .i64 m, .string s]] w fun e w' => e = .returned (.iface 247 (.agg #[.int .i64 13, .int .i64 l, .int .i64 r])) ∧ Below w.heap.size w w' := by
  have HB : Hid (∀ o, Below w.heap.size w (w.alloc o)) := Below.a1 w
  go_enter Tryz.func132, Tryz.ntmps132
  go_wp2_with fail
  go_ret
  exact ⟨rfl, unhide HB _⟩
theorem nar14 {w : World} (l r f m : Int) (s : ByteArray) : Calls Tryz.prog 132 #[.agg #[.int .i64 14, .int .i64 l, .int .i64 r, .int .i64 f, .int .i64 m, .string s]] w fun e w' => e = .returned (.iface 247 (.agg #[.int .i64 14, .int .i64 l, .int .i64 r])) ∧ Below w.heap.size w w' := by
  have HB : Hid (∀ o, Below w.heap.size w (w.alloc o)) := Below.a1 w
  go_enter Tryz.func132, Tryz.ntmps132
  go_wp2_with fail
  go_ret
  exact ⟨rfl, unhide HB _⟩
theorem narNo {w : World} (o l r f m : Int) (s : ByteArray) (h : ¬ (1 ≤ o ∧ o ≤ 20)) : Calls Tryz.prog 132 #[.agg #[.int .i64 o, .int .i64 l, .int .i64 r, .int .i64 f, .int .i64 m, .string s]] w fun e w' => e = .returned .nilIface ∧ Below w.heap.size w w' := by
  have HB : Hid (∀ o, Below w.heap.size w (w.alloc o)) := Below.a1 w
  have h1 : ¬ o = 1 := by omega
  have k1 := beqF h1
  have h2 : ¬ o = 2 := by omega
  have k2 := beqF h2
  have h3 : ¬ o = 3 := by omega
  have k3 := beqF h3
  have h4 : ¬ o = 4 := by omega
  have k4 := beqF h4
  have h5 : ¬ o = 5 := by omega
  have k5 := beqF h5
  have h6 : ¬ o = 6 := by omega
  have k6 := beqF h6
  have h7 : ¬ o = 7 := by omega
  have k7 := beqF h7
  have h8 : ¬ o = 8 := by omega
  have k8 := beqF h8
  have h9 : ¬ o = 9 := by omega
  have k9 := beqF h9
  have h10 : ¬ o = 10 := by omega
  have k10 := beqF h10
  have h11 : ¬ o = 11 := by omega
  have k11 := beqF h11
  have h12 : ¬ o = 12 := by omega
  have k12 := beqF h12
  have h13 : ¬ o = 13 := by omega
  have k13 := beqF h13
  have h14 : ¬ o = 14 := by omega
  have k14 := beqF h14
  have h15 : ¬ o = 15 := by omega
  have k15 := beqF h15
  have h16 : ¬ o = 16 := by omega
  have k16 := beqF h16
  have h17 : ¬ o = 17 := by omega
  have k17 := beqF h17
  have h18 : ¬ o = 18 := by omega
  have k18 := beqF h18
  have h19 : ¬ o = 19 := by omega
  have k19 := beqF h19
  have h20 : ¬ o = 20 := by omega
  have k20 := beqF h20
  clear h
  go_enter Tryz.func132, Tryz.ntmps132
  go_wp2_with fail
  go_ret
  exact ⟨rfl, unhide HB _⟩
theorem narrow_any {w : World} (hF : Flds w) (hM : Mon w) (x : Nd) : Calls Tryz.prog 132 #[x.val] w fun e w' => e = .returned (narS x).val ∧ Below w.heap.size w w' := by
  obtain ⟨o, l, r, f, m, s⟩ := x
  unfold Nd.val
  by_cases hno : 1 ≤ o ∧ o ≤ 20
  · have hc : o = 1 ∨ o = 2 ∨ o = 3 ∨ o = 4 ∨ o = 5 ∨ o = 6 ∨ o = 7 ∨ o = 8 ∨ o = 9 ∨ o = 10 ∨ o = 11 ∨ o = 12 ∨ o = 13 ∨ o = 14 ∨ o = 15 ∨ o = 16 ∨ o = 17 ∨ o = 18 ∨ o = 19 ∨ o = 20 := by omega
    rcases hc with rfl | rfl | rfl | rfl | rfl | rfl | rfl | rfl | rfl | rfl | rfl | rfl | rfl | rfl | rfl | rfl | rfl | rfl | rfl | rfl
    · exact nar1 l r f m s
    · exact nar2 l r f m s
    · exact nar3 l r f m s
    · exact nar4 l r f m s
    · exact nar5 l r f m s
    · exact nar6 l r f m s
    · exact nar7 l r f m s
    · exact nar8 l r f m s
    · exact nar9 l r f m s
    · exact nar10 l r f m s
    · exact nar11 l r f m s
    · exact nar12 l r f m s
    · exact nar13 l r f m s
    · exact nar14 l r f m s
    · exact nar15 l r f m s
    · exact nar16 l r f m s hF
    · exact nar17 l r f m s
    · exact nar18 l r f m s
    · exact nar19 l r f m s hM
    · exact nar20 l r f m s
  · have e : narS ⟨o, l, r, f, m, s⟩ = .no := by unfold narS; simp only; rw [if_neg (by omega), if_neg (by omega), if_neg (by omega), if_neg (by omega), if_neg (by omega), if_neg (by omega), if_neg (by omega)]
    rw [e]
    exact narNo o l r f m s hno
end Go.Proofs.YtfpbljfebjochaaGreatDoor
