import Derived.Test.YtbenciieenbmeaaGreatDoorW02
import Derived.Deep.Cut
import Derived.Laws.MakeOwn
/- typing: isDay 71, narrow 42. -/
namespace Go.Proofs.YtbenciieenbmeaaGreatDoor
open Go Go.Shelf Go.ChangeShapes Go.WideShapes Go.ChangeAt Go.RowKit Go.Maps
set_option linter.unusedVariables false
abbrev db (t : TypeId) (y m d : Int) : Obj := .cells #[.int .i64 y, .int .i64 m, .int .i64 d] t
set_option maxHeartbeats 1000000 in
theorem dto_ok (y m d n : Nat) (w : World) (hM : Mon w) (h : Dat y m d n) :
    Calls Tryz.prog 120 #[.int .i64 n] w fun e w' => e = .returned (.tuple #[.agg #[.int .i64 y, .int .i64 m, .int .i64 d], .int .i64 0]) ∧ w' = ((w.alloc (db 223 y m d)).alloc (db 223 y m d)).alloc (db 223 y m d) := by
  have h6 := h.lo
  have h7 := h.hi
  have HM := hide hM
  have H := hide h
  clear h hM
  go_enter Tryz.func120, Tryz.ntmps120
  go_wp2_with (first | (go_at_call 132; refine (isday_yes _ _ (by omega) (by omega)).mono ?_; rintro e w' ⟨rfl, hw⟩; subst hw) | (go_at_call 133; refine (date_any y m d n _ (mon1 (unhide HM) _) (unhide H)).mono ?_; rintro e w' ⟨rfl, hw⟩; subst hw))
  exact bodyPost_ret (v := .tuple #[.agg #[.int .i64 y, .int .i64 m, .int .i64 d], .int .i64 0]) (by simp [results, Tryz.results120, go_sem]) rfl ⟨rfl, rfl⟩
set_option maxHeartbeats 1000000 in
theorem dto_bad (n : Int) (w : World) (h : n < 1 ∨ 3652059 < n) :
    Calls Tryz.prog 120 #[.int .i64 n] w fun e w' => e = .returned (.tuple #[.agg #[.int .i64 0, .int .i64 0, .int .i64 0], .int .i64 20]) ∧ w' = w.alloc (db 223 0 0 0) := by
  have H := hide h
  clear h
  go_enter Tryz.func120, Tryz.ntmps120
  go_wp2_with (first | (go_at_call 132; refine (isday_no _ _ (unhide H)).mono ?_; rintro e w' ⟨rfl, hw⟩; subst hw))
  exact bodyPost_ret (v := .tuple #[.agg #[.int .i64 0, .int .i64 0, .int .i64 0], .int .i64 20]) (by simp [results, Tryz.results120, go_sem]) rfl ⟨rfl, rfl⟩
/-- is a number a day? -/
def dayB (n : Int) : Bool := decide (1 ≤ n) && decide (n ≤ 3652059)
theorem Below.a1 (w : World) (o : Obj) : Below w.heap.size w (w.alloc o) := (Below.refl _ w).alloc (Nat.le_refl _) o
theorem Below.a2 (w : World) (o o2 : Obj) : Below w.heap.size w ((w.alloc o).alloc o2) := (Below.a1 w o).alloc (by simp) o2
theorem tisDay_any {w : World} (hM : Mon w) (n : Int) : Calls Tryz.prog 103 #[.int .i64 n] w fun e w' => e = .returned (.bool (dayB n)) ∧ Below w.heap.size w w' := by
  by_cases h : 1 ≤ n ∧ n ≤ 3652059
  · have e : dayB n = true := by unfold dayB; rw [Bool.and_eq_true, decide_eq_true_iff, decide_eq_true_iff]; exact h
    rw [e]
    obtain ⟨k, rfl⟩ : ∃ k : Nat, n = k := ⟨n.toNat, by omega⟩
    obtain ⟨y, m, d, hd⟩ := dat_ex k (by omega) (by omega)
    have D := hide (dto_ok y m d k w hM hd)
    have HB : Hid (Below w.heap.size w (((w.alloc (db 223 y m d)).alloc (db 223 y m d)).alloc (db 223 y m d))) := ((Below.a2 w _ _).alloc (by simp; omega) _)
    obtain ⟨W, hW⟩ : ∃ W, W = ((w.alloc (db 223 y m d)).alloc (db 223 y m d)).alloc (db 223 y m d) := ⟨_, rfl⟩
    rw [← hW] at D HB
    clear hW hM hd h e
    go_enter Tryz.func103, Tryz.ntmps103
    go_wp2_with fail
    refine (unhide D).mono ?_
    rintro e w1 ⟨rfl, hw⟩
    rw [hw]; clear hw w1
    go_wp2_with fail
    go_ret
    exact ⟨rfl, (unhide HB).alloc (unhide HB).size _⟩
  · have e : dayB n = false := by unfold dayB; rw [Bool.and_eq_false_iff, decide_eq_false_iff_not, decide_eq_false_iff_not]; omega
    rw [e]
    have D := hide (dto_bad n w (by omega))
    have HB : Hid (Below w.heap.size w (w.alloc (db 223 0 0 0))) := Below.a1 w _
    obtain ⟨W, hW⟩ : ∃ W, W = w.alloc (db 223 0 0 0) := ⟨_, rfl⟩
    rw [← hW] at D HB
    clear hW hM h e
    go_enter Tryz.func103, Tryz.ntmps103
    go_wp2_with fail
    refine (unhide D).mono ?_
    rintro e w1 ⟨rfl, hw⟩
    rw [hw]; clear hw w1
    go_wp2_with fail
    go_ret
    exact ⟨rfl, (unhide HB).alloc (unhide HB).size _⟩
/-- a node without what its Op does not use -/
inductive Sh where
  | leaf (t : Int)
  | single (op l : Int)
  | pair (op l r : Int)
  | no
def Sh.val : Sh → Value
  | .leaf t => .iface 185 (.agg #[.int .i64 t])
  | .single op l => .iface 187 (.agg #[.int .i64 op, .int .i64 l])
  | .pair op l r => .iface 189 (.agg #[.int .i64 op, .int .i64 l, .int .i64 r])
  | .no => .nilIface
def narS (x : Nd) : Sh :=
  if x.op = 16 then .leaf (fldS x.field).2 else if x.op = 17 then .leaf 1 else if x.op = 18 then .leaf 2 else if x.op = 19 then .leaf (tif (dayB x.num) 3)
  else if x.op = 20 then .leaf (tif (x.num == 0 || x.num == 1) 4) else if x.op = 3 ∨ x.op = 15 then .single x.op x.left else if 1 ≤ x.op ∧ x.op ≤ 14 then .pair x.op x.left x.right else .no
set_option maxRecDepth 100000
set_option maxHeartbeats 2000000
theorem nar16 {w : World} (l r f m : Int) (s : ByteArray) (hF : Flds w) : Calls Tryz.prog 61 #[.agg #[.int .i64 16, .int .i64 l, .int .i64 r, .int .i64 f, .int .i64 m, .string s]] w fun e w' => e = .returned (.iface 185 (.agg #[.int .i64 (fldS f).2])) ∧ Below w.heap.size w w' := by
  have HB : Hid (∀ o, Below w.heap.size w (w.alloc o)) := Below.a1 w
  have d := hide (fun o => field_any (hF.below (Below.a1 w o)) f)
  obtain ⟨a, ha⟩ : ∃ a, a = (fldS f).1 := ⟨_, rfl⟩
  obtain ⟨t, ht⟩ : ∃ t, t = (fldS f).2 := ⟨_, rfl⟩
  rw [← ha, ← ht] at d
  rw [← ht]
  clear hF ha ht
  go_enter Tryz.func61, Tryz.ntmps61
  go_wp2_with fail
  refine (unhide d _).mono ?_
  rintro e w1 ⟨rfl, q, hw⟩
  have HW := hide hw
  clear hw
  go_wp2_with fail
  go_ret
  refine ⟨rfl, ?_⟩
  rw [unhide HW]
  exact below_drewN (unhide HB _) _
theorem nar17 {w : World} (l r f m : Int) (s : ByteArray) : Calls Tryz.prog 61 #[.agg #[.int .i64 17, .int .i64 l, .int .i64 r, .int .i64 f, .int .i64 m, .string s]] w fun e w' => e = .returned (.iface 185 (.agg #[.int .i64 1])) ∧ Below w.heap.size w w' := by
  have HB : Hid (∀ o, Below w.heap.size w (w.alloc o)) := Below.a1 w
  go_enter Tryz.func61, Tryz.ntmps61
  go_wp2_with fail
  go_ret
  exact ⟨rfl, unhide HB _⟩
theorem nar18 {w : World} (l r f m : Int) (s : ByteArray) : Calls Tryz.prog 61 #[.agg #[.int .i64 18, .int .i64 l, .int .i64 r, .int .i64 f, .int .i64 m, .string s]] w fun e w' => e = .returned (.iface 185 (.agg #[.int .i64 2])) ∧ Below w.heap.size w w' := by
  have HB : Hid (∀ o, Below w.heap.size w (w.alloc o)) := Below.a1 w
  go_enter Tryz.func61, Tryz.ntmps61
  go_wp2_with fail
  go_ret
  exact ⟨rfl, unhide HB _⟩
theorem nar19 {w : World} (l r f m : Int) (s : ByteArray) (hM : Mon w) : Calls Tryz.prog 61 #[.agg #[.int .i64 19, .int .i64 l, .int .i64 r, .int .i64 f, .int .i64 m, .string s]] w fun e w' => e = .returned (.iface 185 (.agg #[.int .i64 (tif (dayB m) 3)])) ∧ Below w.heap.size w w' := by
  have HB : Hid (∀ o, Below w.heap.size w (w.alloc o)) := Below.a1 w
  have d := hide (fun o => tisDay_any (hM.below (Below.a1 w o)) m)
  have d2 := hide typeIf_any
  obtain ⟨a, ha⟩ : ∃ a, a = dayB m := ⟨_, rfl⟩
  rw [← ha] at d ⊢
  clear hM ha
  go_enter Tryz.func61, Tryz.ntmps61
  go_wp2_with fail
  refine (unhide d _).mono ?_
  rintro e w1 ⟨rfl, hw⟩
  have HW := hide hw
  clear hw
  go_wp2_with fail
  refine (unhide d2 _ _ _).mono ?_
  rintro e w2 ⟨rfl, hw⟩
  rw [hw]; clear hw w2
  go_wp2_with fail
  go_ret
  exact ⟨rfl, (unhide HB _).trans ((unhide HW).mono (by simp))⟩
theorem nar20 {w : World} (l r f m : Int) (s : ByteArray) : Calls Tryz.prog 61 #[.agg #[.int .i64 20, .int .i64 l, .int .i64 r, .int .i64 f, .int .i64 m, .string s]] w fun e w' => e = .returned (.iface 185 (.agg #[.int .i64 (tif (m == 0 || m == 1) 4)])) ∧ Below w.heap.size w w' := by
  have HB : Hid (∀ o, Below w.heap.size w (w.alloc o)) := Below.a1 w
  have d2 := hide typeIf_any
  by_cases h : m = 0
  · subst h
    go_enter Tryz.func61, Tryz.ntmps61
    go_wp2_with fail
    refine (unhide d2 true _ _).mono ?_
    rintro e w2 ⟨rfl, hw⟩
    rw [hw]; clear hw w2
    go_wp2_with fail
    go_ret
    exact ⟨rfl, unhide HB _⟩
  · have h' := beqF h
    have e1 : (m == 0 || m == 1) = (m == 1) := by rw [h']; rfl
    rw [e1]
    go_enter Tryz.func61, Tryz.ntmps61
    go_wp2_with fail
    refine (unhide d2 _ _ _).mono ?_
    rintro e w2 ⟨rfl, hw⟩
    rw [hw]; clear hw w2
    go_wp2_with fail
    go_ret
    exact ⟨rfl, unhide HB _⟩
theorem nar3 {w : World} (l r f m : Int) (s : ByteArray) : Calls Tryz.prog 61 #[.agg #[.int .i64 3, .int .i64 l, .int .i64 r, .int .i64 f, .int .i64 m, .string s]] w fun e w' => e = .returned (.iface 187 (.agg #[.int .i64 3, .int .i64 l])) ∧ Below w.heap.size w w' := by
  have HB : Hid (∀ o, Below w.heap.size w (w.alloc o)) := Below.a1 w
  go_enter Tryz.func61, Tryz.ntmps61
  go_wp2_with fail
  go_ret
  exact ⟨rfl, unhide HB _⟩
theorem nar15 {w : World} (l r f m : Int) (s : ByteArray) : Calls Tryz.prog 61 #[.agg #[.int .i64 15, .int .i64 l, .int .i64 r, .int .i64 f, .int .i64 m, .string s]] w fun e w' => e = .returned (.iface 187 (.agg #[.int .i64 15, .int .i64 l])) ∧ Below w.heap.size w w' := by
  have HB : Hid (∀ o, Below w.heap.size w (w.alloc o)) := Below.a1 w
  go_enter Tryz.func61, Tryz.ntmps61
  go_wp2_with fail
  go_ret
  exact ⟨rfl, unhide HB _⟩
theorem nar1 {w : World} (l r f m : Int) (s : ByteArray) : Calls Tryz.prog 61 #[.agg #[.int .i64 1, .int .i64 l, .int .i64 r, .int .i64 f, .int .i64 m, .string s]] w fun e w' => e = .returned (.iface 189 (.agg #[.int .i64 1, .int .i64 l, .int .i64 r])) ∧ Below w.heap.size w w' := by
  have HB : Hid (∀ o, Below w.heap.size w (w.alloc o)) := Below.a1 w
  go_enter Tryz.func61, Tryz.ntmps61
  go_wp2_with fail
  go_ret
  exact ⟨rfl, unhide HB _⟩
theorem nar2 {w : World} (l r f m : Int) (s : ByteArray) : Calls Tryz.prog 61 #[.agg #[.int .i64 2, .int .i64 l, .int .i64 r, .int .i64 f, .int .i64 m, .string s]] w fun e w' => e = .returned (.iface 189 (.agg #[.int .i64 2, .int .i64 l, .int .i64 r])) ∧ Below w.heap.size w w' := by
  have HB : Hid (∀ o, Below w.heap.size w (w.alloc o)) := Below.a1 w
  go_enter Tryz.func61, Tryz.ntmps61
  go_wp2_with fail
  go_ret
  exact ⟨rfl, unhide HB _⟩
theorem nar4 {w : World} (l r f m : Int) (s : ByteArray) : Calls Tryz.prog 61 #[.agg #[.int .i64 4, .int .i64 l, .int .i64 r, .int .i64 f, .int .i64 m, .string s]] w fun e w' => e = .returned (.iface 189 (.agg #[.int .i64 4, .int .i64 l, .int .i64 r])) ∧ Below w.heap.size w w' := by
  have HB : Hid (∀ o, Below w.heap.size w (w.alloc o)) := Below.a1 w
  go_enter Tryz.func61, Tryz.ntmps61
  go_wp2_with fail
  go_ret
  exact ⟨rfl, unhide HB _⟩
theorem nar5 {w : World} (l r f m : Int) (s : ByteArray) : Calls Tryz.prog 61 #[.agg #[.int .i64 5, .int .i64 l, .int .i64 r, .int .i64 f, .int .i64 m, .string s]] w fun e w' => e = .returned (.iface 189 (.agg #[.int .i64 5, .int .i64 l, .int .i64 r])) ∧ Below w.heap.size w w' := by
  have HB : Hid (∀ o, Below w.heap.size w (w.alloc o)) := Below.a1 w
  go_enter Tryz.func61, Tryz.ntmps61
  go_wp2_with fail
  go_ret
  exact ⟨rfl, unhide HB _⟩
theorem nar6 {w : World} (l r f m : Int) (s : ByteArray) : Calls Tryz.prog 61 #[.agg #[.int .i64 6, .int .i64 l, .int .i64 r, .int .i64 f, .int .i64 m, .string s]] w fun e w' => e = .returned (.iface 189 (.agg #[.int .i64 6, .int .i64 l, .int .i64 r])) ∧ Below w.heap.size w w' := by
  have HB : Hid (∀ o, Below w.heap.size w (w.alloc o)) := Below.a1 w
  go_enter Tryz.func61, Tryz.ntmps61
  go_wp2_with fail
  go_ret
  exact ⟨rfl, unhide HB _⟩
theorem nar7 {w : World} (l r f m : Int) (s : ByteArray) : Calls Tryz.prog 61 #[.agg #[.int .i64 7, .int .i64 l, .int .i64 r, .int .i64 f, .int .i64 m, .string s]] w fun e w' => e = .returned (.iface 189 (.agg #[.int .i64 7, .int .i64 l, .int .i64 r])) ∧ Below w.heap.size w w' := by
  have HB : Hid (∀ o, Below w.heap.size w (w.alloc o)) := Below.a1 w
  go_enter Tryz.func61, Tryz.ntmps61
  go_wp2_with fail
  go_ret
  exact ⟨rfl, unhide HB _⟩
theorem nar8 {w : World} (l r f m : Int) (s : ByteArray) : Calls Tryz.prog 61 #[.agg #[.int .i64 8, .int .i64 l, .int .i64 r, .int .i64 f, .int .i64 m, .string s]] w fun e w' => e = .returned (.iface 189 (.agg #[.int .i64 8, .int .i64 l, .int .i64 r])) ∧ Below w.heap.size w w' := by
  have HB : Hid (∀ o, Below w.heap.size w (w.alloc o)) := Below.a1 w
  go_enter Tryz.func61, Tryz.ntmps61
  go_wp2_with fail
  go_ret
  exact ⟨rfl, unhide HB _⟩
theorem nar9 {w : World} (l r f m : Int) (s : ByteArray) : Calls Tryz.prog 61 #[.agg #[.int .i64 9, .int .i64 l, .int .i64 r, .int .i64 f, .int .i64 m, .string s]] w fun e w' => e = .returned (.iface 189 (.agg #[.int .i64 9, .int .i64 l, .int .i64 r])) ∧ Below w.heap.size w w' := by
  have HB : Hid (∀ o, Below w.heap.size w (w.alloc o)) := Below.a1 w
  go_enter Tryz.func61, Tryz.ntmps61
  go_wp2_with fail
  go_ret
  exact ⟨rfl, unhide HB _⟩
theorem nar10 {w : World} (l r f m : Int) (s : ByteArray) : Calls Tryz.prog 61 #[.agg #[.int .i64 10, .int .i64 l, .int .i64 r, .int .i64 f, .int .i64 m, .string s]] w fun e w' => e = .returned (.iface 189 (.agg #[.int .i64 10, .int .i64 l, .int .i64 r])) ∧ Below w.heap.size w w' := by
  have HB : Hid (∀ o, Below w.heap.size w (w.alloc o)) := Below.a1 w
  go_enter Tryz.func61, Tryz.ntmps61
  go_wp2_with fail
  go_ret
  exact ⟨rfl, unhide HB _⟩
theorem nar11 {w : World} (l r f m : Int) (s : ByteArray) : Calls Tryz.prog 61 #[.agg #[.int .i64 11, .int .i64 l, .int .i64 r, .int .i64 f, .int .i64 m, .string s]] w fun e w' => e = .returned (.iface 189 (.agg #[.int .i64 11, .int .i64 l, .int .i64 r])) ∧ Below w.heap.size w w' := by
  have HB : Hid (∀ o, Below w.heap.size w (w.alloc o)) := Below.a1 w
  go_enter Tryz.func61, Tryz.ntmps61
  go_wp2_with fail
  go_ret
  exact ⟨rfl, unhide HB _⟩
theorem nar12 {w : World} (l r f m : Int) (s : ByteArray) : Calls Tryz.prog 61 #[.agg #[.int .i64 12, .int .i64 l, .int .i64 r, .int .i64 f, .int .i64 m, .string s]] w fun e w' => e = .returned (.iface 189 (.agg #[.int .i64 12, .int .i64 l, .int .i64 r])) ∧ Below w.heap.size w w' := by
  have HB : Hid (∀ o, Below w.heap.size w (w.alloc o)) := Below.a1 w
  go_enter Tryz.func61, Tryz.ntmps61
  go_wp2_with fail
  go_ret
  exact ⟨rfl, unhide HB _⟩
theorem nar13 {w : World} (l r f m : Int) (s : ByteArray) : Calls Tryz.prog 61 #[.agg #[.int .i64 13, .int .i64 l, .int .i64 r, .int .i64 f, .int .i64 m, .string s]] w fun e w' => e = .returned (.iface 189 (.agg #[.int .i64 13, .int .i64 l, .int .i64 r])) ∧ Below w.heap.size w w' := by
  have HB : Hid (∀ o, Below w.heap.size w (w.alloc o)) := Below.a1 w
  go_enter Tryz.func61, Tryz.ntmps61
  go_wp2_with fail
  go_ret
  exact ⟨rfl, unhide HB _⟩
theorem nar14 {w : World} (l r f m : Int) (s : ByteArray) : Calls Tryz.prog 61 #[.agg #[.int .i64 14, .int .i64 l, .int .i64 r, .int .i64 f, .int .i64 m, .string s]] w fun e w' => e = .returned (.iface 189 (.agg #[.int .i64 14, .int .i64 l, .int .i64 r])) ∧ Below w.heap.size w w' := by
  have HB : Hid (∀ o, Below w.heap.size w (w.alloc o)) := Below.a1 w
  go_enter Tryz.func61, Tryz.ntmps61
  go_wp2_with fail
  go_ret
  exact ⟨rfl, unhide HB _⟩
theorem narNo {w : World} (o l r f m : Int) (s : ByteArray) (h : ¬ (1 ≤ o ∧ o ≤ 20)) : Calls Tryz.prog 61 #[.agg #[.int .i64 o, .int .i64 l, .int .i64 r, .int .i64 f, .int .i64 m, .string s]] w fun e w' => e = .returned .nilIface ∧ Below w.heap.size w w' := by
  have HB : Hid (∀ o, Below w.heap.size w (w.alloc o)) := Below.a1 w
  have h1 : ¬ o = 1 := by omega
  have k1 := beqF h1
  have h2 : ¬ o = 2 := by omega
  have k2 := beqF h2
  have h3 : ¬ o = 3 := by omega
  have k3 := beqF h3
  have h4 : ¬ o = 4 := by omega
  have k4 := beqF h4
  have h5 : ¬ o = 5 := by omega
  have k5 := beqF h5
  have h6 : ¬ o = 6 := by omega
  have k6 := beqF h6
  have h7 : ¬ o = 7 := by omega
  have k7 := beqF h7
  have h8 : ¬ o = 8 := by omega
  have k8 := beqF h8
  have h9 : ¬ o = 9 := by omega
  have k9 := beqF h9
  have h10 : ¬ o = 10 := by omega
  have k10 := beqF h10
  have h11 : ¬ o = 11 := by omega
  have k11 := beqF h11
  have h12 : ¬ o = 12 := by omega
  have k12 := beqF h12
  have h13 : ¬ o = 13 := by omega
  have k13 := beqF h13
  have h14 : ¬ o = 14 := by omega
  have k14 := beqF h14
  have h15 : ¬ o = 15 := by omega
  have k15 := beqF h15
  have h16 : ¬ o = 16 := by omega
  have k16 := beqF h16
  have h17 : ¬ o = 17 := by omega
  have k17 := beqF h17
  have h18 : ¬ o = 18 := by omega
  have k18 := beqF h18
  have h19 : ¬ o = 19 := by omega
  have k19 := beqF h19
  have h20 : ¬ o = 20 := by omega
  have k20 := beqF h20
  clear h
  go_enter Tryz.func61, Tryz.ntmps61
  go_wp2_with fail
  go_ret
  exact ⟨rfl, unhide HB _⟩
theorem narrow_any {w : World} (hF : Flds w) (hM : Mon w) (x : Nd) : Calls Tryz.prog 61 #[x.val] w fun e w' => e = .returned (narS x).val ∧ Below w.heap.size w w' := by
  obtain ⟨o, l, r, f, m, s⟩ := x
  unfold Nd.val
  by_cases hno : 1 ≤ o ∧ o ≤ 20
  · have hc : o = 1 ∨ o = 2 ∨ o = 3 ∨ o = 4 ∨ o = 5 ∨ o = 6 ∨ o = 7 ∨ o = 8 ∨ o = 9 ∨ o = 10 ∨ o = 11 ∨ o = 12 ∨ o = 13 ∨ o = 14 ∨ o = 15 ∨ o = 16 ∨ o = 17 ∨ o = 18 ∨ o = 19 ∨ o = 20 := by omega
    rcases hc with rfl | rfl | rfl | rfl | rfl | rfl | rfl | rfl | rfl | rfl | rfl | rfl | rfl | rfl | rfl | rfl | rfl | rfl | rfl | rfl
    · exact nar1 l r f m s
    · exact nar2 l r f m s
    · exact nar3 l r f m s
    · exact nar4 l r f m s
    · exact nar5 l r f m s
    · exact nar6 l r f m s
    · exact nar7 l r f m s
    · exact nar8 l r f m s
    · exact nar9 l r f m s
    · exact nar10 l r f m s
    · exact nar11 l r f m s
    · exact nar12 l r f m s
    · exact nar13 l r f m s
    · exact nar14 l r f m s
    · exact nar15 l r f m s
    · exact nar16 l r f m s hF
    · exact nar17 l r f m s
    · exact nar18 l r f m s
    · exact nar19 l r f m s hM
    · exact nar20 l r f m s
  · have e : narS ⟨o, l, r, f, m, s⟩ = .no := by unfold narS; simp only; rw [if_neg (by omega), if_neg (by omega), if_neg (by omega), if_neg (by omega), if_neg (by omega), if_neg (by omega), if_neg (by omega)]
    rw [e]
    exact narNo o l r f m s hno
end Go.Proofs.YtbenciieenbmeaaGreatDoor
/- typing: guarded regions whose calls leave old blocks alone; typeOf 41. -/
namespace Go.Proofs.YtbenciieenbmeaaGreatDoor
open Go Go.Shelf Go.ChangeShapes Go.WideShapes Go.ChangeAt Go.RowKit Go.Maps
set_option linter.unusedVariables false
structure Bel (w : World) where
  W : World
  h : Below w.heap.size w W
@[reducible] def belInh (w : World) : Inhabited (Bel w) := ⟨⟨w, Below.refl _ _⟩⟩
attribute [instance] belInh
theorem wp_region_quiet_below {id : Nat} {Q : Exit → Act → World → Prop} {a : Act} {w : World} {l : List Oper} (hm : Tryz.prog.follows .mixedOrders = true) (hB : Region.lexB .any l.toArray = true)
    (h : wpQuiet Tryz.prog l.toArray (fun w' => ∃ p : Bel w, w' = p.W) (fun a' => ∀ w', (∃ p : Bel w, w' = p.W) → Q .normal a' w') l a) : (Code.region id l.toArray true).wp Tryz.prog Q a w :=
  wp_region_quiet (C := fun w' => ∃ p : Bel w, w' = p.W) hm hB ⟨⟨w.drew, below_drewN (Below.refl _ w) 1⟩, rfl⟩ (by simpa using h)
/-- a contract as a guarded region wants it -/
theorem Bel.calls {w : World} {f : Nat} {args : Array Value} {v : Value} (P : Bel w) (h : Calls Tryz.prog f args P.W fun e w' => e = .returned v ∧ Below P.W.heap.size P.W w') : Calls Tryz.prog f args P.W fun e w' => e = .returned v ∧ ∃ q : Bel w, w' = q.W :=
  h.mono fun e w' hw => ⟨hw.1, ⟨w', P.h.trans (hw.2.mono P.h.size)⟩, rfl⟩
theorem Bel.same {w : World} {f : Nat} {args : Array Value} {v : Value} (P : Bel w) (h : Calls Tryz.prog f args P.W fun e w' => e = .returned v ∧ w' = P.W) : Calls Tryz.prog f args P.W fun e w' => e = .returned v ∧ ∃ q : Bel w, w' = q.W :=
  h.mono fun e w' hw => ⟨hw.1, P, hw.2⟩
/-- a node's type -/
def typS (s : Sh) (T : List Int) : Int := match s with
  | .leaf t => t
  | .single op l => sgl op (tat T l)
  | .pair op l r => prS op (tat T l) (tat T r)
  | .no => 0
theorem as1y (v : Value) (w : World) : (Instr.typeAssert (.iface 185 v) 136 185 true).run Tryz.prog w = .ok (.tuple #[v, .bool true]) w := by kernel_rfl
theorem as2n (v : Value) (w : World) : (Instr.typeAssert (.iface 187 v) 136 185 true).run Tryz.prog w = .ok (.tuple #[.agg #[.int .i64 0], .bool false]) w := by kernel_rfl
theorem as2y (v : Value) (w : World) : (Instr.typeAssert (.iface 187 v) 136 187 true).run Tryz.prog w = .ok (.tuple #[v, .bool true]) w := by kernel_rfl
theorem as3n (v : Value) (w : World) : (Instr.typeAssert (.iface 189 v) 136 185 true).run Tryz.prog w = .ok (.tuple #[.agg #[.int .i64 0], .bool false]) w := by kernel_rfl
theorem as3n2 (v : Value) (w : World) : (Instr.typeAssert (.iface 189 v) 136 187 true).run Tryz.prog w = .ok (.tuple #[.agg #[.int .i64 0, .int .i64 0], .bool false]) w := by kernel_rfl
theorem as3y (v : Value) (w : World) : (Instr.typeAssert (.iface 189 v) 136 189 true).run Tryz.prog w = .ok (.tuple #[v, .bool true]) w := by kernel_rfl
theorem as0a (w : World) : (Instr.typeAssert .nilIface 136 185 true).run Tryz.prog w = .ok (.tuple #[.agg #[.int .i64 0], .bool false]) w := by kernel_rfl
theorem as0b (w : World) : (Instr.typeAssert .nilIface 136 187 true).run Tryz.prog w = .ok (.tuple #[.agg #[.int .i64 0, .int .i64 0], .bool false]) w := by kernel_rfl
theorem as0c (w : World) : (Instr.typeAssert .nilIface 136 189 true).run Tryz.prog w = .ok (.tuple #[.agg #[.int .i64 0, .int .i64 0, .int .i64 0], .bool false]) w := by kernel_rfl
set_option maxRecDepth 100000
set_option maxHeartbeats 4000000
theorem typeOf_any {W : World} (hR : Recs W) {p : Option Addr} {n c : Nat} {T : List Int} (hn : T.length = n) (hT : Lies kI W p T) (s : Sh) : Calls Tryz.prog 60 #[s.val, .slice p n c] W fun e w' => e = .returned (.int .i64 (typS s T)) ∧ Below W.heap.size W w' := by
  have HB : Hid (∀ o, Below W.heap.size W (W.alloc o)) := Below.a1 W
  cases s with
  | leaf t =>
    unfold Sh.val typS
    have h1 := as1y
    clear hT hn hR
    go_enter Tryz.func60, Tryz.ntmps60
    go_wp2_with fail
    go_ret
    exact ⟨rfl, unhide HB _⟩
  | single op l =>
    unfold Sh.val typS
    have h1 := as2n
    have h2 := as2y
    simp only
    obtain ⟨o, ho⟩ : ∃ o : Obj, o = .cells #[.int .i64 op, .int .i64 l] 187 := ⟨_, rfl⟩
    have hc : ∀ P : Bel (W.alloc o), Below W.heap.size W P.W := fun P => (Below.a1 W o).trans (P.h.mono (by simp))
    have d : Hid (∀ P : Bel (W.alloc o), Calls Tryz.prog 68 #[.slice p n c, .int .i64 l] P.W fun e w' => e = .returned (.int .i64 (tat T l)) ∧ ∃ q : Bel (W.alloc o), w' = q.W) := fun P => P.same (typeAt_any hn (hT.below (hc P)) l)
    have d3 : Hid (∀ P : Bel (W.alloc o), Calls Tryz.prog 100 #[.int .i64 op, .int .i64 (tat T l)] P.W fun e w' => e = .returned (.int .i64 (sgl op (tat T l))) ∧ ∃ q : Bel (W.alloc o), w' = q.W) := fun P => P.same (single_any _ _ _)
    have c0 : ∀ P : Bel (W.alloc o), P.W.cell? ⟨W.heap.size, 0, none⟩ = some (.int .i64 op) := fun P => by rw [P.h.cell (by simp), ho]; simp
    have c1 : ∀ P : Bel (W.alloc o), P.W.cell? ⟨W.heap.size, 1, none⟩ = some (.int .i64 l) := fun P => by rw [P.h.cell (by simp), ho]; simp
    have HC := hide hc
    obtain ⟨t, ht⟩ : ∃ t, t = tat T l := ⟨_, rfl⟩
    rw [← ht] at d d3 ⊢
    rw [ho] at d d3 c0 c1 HC
    clear hT hn ht hR hc ho o
    go_enter Tryz.func60, Tryz.ntmps60
    go_upto_region 7 with fail
    refine wp_region_quiet_below (by kernel_rfl) (by kernel_rfl) ?_
    repeat (go_big_quiet_step (first | (go_at_call 68; refine unhide d _) | (go_at_call 100; refine unhide d3 _)))
    refine wpQuiet_nil ?_
    rintro _ ⟨P, rfl⟩
    go_wp2_with fail
    go_ret
    exact ⟨rfl, unhide HC P⟩
  | pair op l r =>
    unfold Sh.val typS
    have h1 := as3n
    have h2 := as3n2
    have h3 := as3y
    simp only
    obtain ⟨o, ho⟩ : ∃ o : Obj, o = .cells #[.int .i64 op, .int .i64 l, .int .i64 r] 189 := ⟨_, rfl⟩
    have hc : ∀ P : Bel (W.alloc o), Below W.heap.size W P.W := fun P => (Below.a1 W o).trans (P.h.mono (by simp))
    have d : Hid (∀ (P : Bel (W.alloc o)) (i : Int), Calls Tryz.prog 68 #[.slice p n c, .int .i64 i] P.W fun e w' => e = .returned (.int .i64 (tat T i)) ∧ ∃ q : Bel (W.alloc o), w' = q.W) := fun P i => P.same (typeAt_any hn (hT.below (hc P)) i)
    have d3 : Hid (∀ P : Bel (W.alloc o), Calls Tryz.prog 101 #[.int .i64 op, .int .i64 (tat T l), .int .i64 (tat T r)] P.W fun e w' => e = .returned (.int .i64 (prS op (tat T l) (tat T r))) ∧ ∃ q : Bel (W.alloc o), w' = q.W) := fun P => P.calls (pair_any (hR.below (hc P)) _ _ _)
    have c0 : ∀ P : Bel (W.alloc o), P.W.cell? ⟨W.heap.size, 0, none⟩ = some (.int .i64 op) := fun P => by rw [P.h.cell (by simp), ho]; simp
    have c1 : ∀ P : Bel (W.alloc o), P.W.cell? ⟨W.heap.size, 1, none⟩ = some (.int .i64 l) := fun P => by rw [P.h.cell (by simp), ho]; simp
    have c2 : ∀ P : Bel (W.alloc o), P.W.cell? ⟨W.heap.size, 2, none⟩ = some (.int .i64 r) := fun P => by rw [P.h.cell (by simp), ho]; simp
    have HC := hide hc
    rw [ho] at d d3 c0 c1 c2 HC
    clear hT hn hR hc ho o
    go_enter Tryz.func60, Tryz.ntmps60
    go_upto_region 10 with fail
    refine wp_region_quiet_below (by kernel_rfl) (by kernel_rfl) ?_
    repeat (go_big_quiet_step (first | (go_at_call 68; refine unhide d _ _) | (go_at_call 101; refine unhide d3 _)))
    refine wpQuiet_nil ?_
    rintro _ ⟨P, rfl⟩
    go_wp2_with fail
    go_ret
    exact ⟨rfl, unhide HC P⟩
  | no =>
    unfold Sh.val typS
    have h1 := as0a
    have h2 := as0b
    have h3 := as0c
    clear hT hn hR
    go_enter Tryz.func60, Tryz.ntmps60
    go_wp2_with fail
    go_ret
    exact ⟨rfl, Below.refl _ _⟩
end Go.Proofs.YtbenciieenbmeaaGreatDoor
/- answer: cells: isOver 78, isTrue 79, truthOf 77, textOf 121, fitting 109, money.Check 130. -/
namespace Go.Proofs.YtbenciieenbmeaaGreatDoor
open Go Go.Shelf Go.ChangeShapes Go.WideShapes Go.ChangeAt Go.RowKit Go.Maps
set_option linter.unusedVariables false
/-- a cell of a table -/
structure Cl where
  ty : Int
  num : Int
  tx : ByteArray
deriving DecidableEq
abbrev cV (t n : Int) (s : ByteArray) : Value := .agg #[.int .i64 t, .int .i64 n, .string s]
def Cl.val (c : Cl) : Value := cV c.ty c.num c.tx
/-- a cell that is worth nothing -/
def Cl.no : Cl := ⟨0, 0, ⟨#[]⟩⟩
def boolI (b : Bool) : Int := if b then 1 else 0
def tru (b : Bool) : Cl := ⟨4, boolI b, ⟨#[]⟩⟩
def txt (s : ByteArray) : Cl := ⟨2, 0, s⟩
def fit (b : Bool) (c : Cl) : Cl := if b then c else .no
/-- is it an amount? -/
def amt (n : Int) : Bool := !(n == -9223372036854775808)
def numC (t n : Int) : Cl := fit (amt n) ⟨t, n, ⟨#[]⟩⟩
theorem isOver_any (t n : Int) (s : ByteArray) (w : World) : Calls Tryz.prog 78 #[cV t n s] w fun e w' => e = .returned (.bool (t == 0)) ∧ Below w.heap.size w w' := by
  have HB : Hid (∀ o, Below w.heap.size w (w.alloc o)) := Below.a1 w
  go_enter Tryz.func78, Tryz.ntmps78
  go_wp2_with fail
  go_ret
  exact ⟨rfl, unhide HB _⟩
theorem isTrue_any (t n : Int) (s : ByteArray) (w : World) : Calls Tryz.prog 79 #[cV t n s] w fun e w' => e = .returned (.bool (n == 1)) ∧ Below w.heap.size w w' := by
  have HB : Hid (∀ o, Below w.heap.size w (w.alloc o)) := Below.a1 w
  go_enter Tryz.func79, Tryz.ntmps79
  go_wp2_with fail
  go_ret
  exact ⟨rfl, unhide HB _⟩
theorem truthOf_any (b : Bool) (w : World) : Calls Tryz.prog 77 #[.bool b] w fun e w' => e = .returned (tru b).val ∧ Below w.heap.size w w' := by
  have HB : Hid (∀ o, Below w.heap.size w (w.alloc o)) := Below.a1 w
  cases b
  · go_enter Tryz.func77, Tryz.ntmps77
    go_wp2_with fail
    exact bodyPost_ret (v := cV 4 0 ⟨#[]⟩) (by simp [results, Tryz.results77, go_sem]) rfl ⟨rfl, unhide HB _⟩
  · go_enter Tryz.func77, Tryz.ntmps77
    go_wp2_with fail
    exact bodyPost_ret (v := cV 4 1 ⟨#[]⟩) (by simp [results, Tryz.results77, go_sem]) rfl ⟨rfl, unhide HB _⟩
theorem textOf_any (s : ByteArray) (w : World) : Calls Tryz.prog 121 #[.string s] w fun e w' => e = .returned (txt s).val ∧ Below w.heap.size w w' := by
  have HB : Hid (∀ o, Below w.heap.size w (w.alloc o)) := Below.a1 w
  go_enter Tryz.func121, Tryz.ntmps121
  go_wp2_with fail
  exact bodyPost_ret (v := cV 2 0 s) (by simp [results, Tryz.results121, go_sem]) rfl ⟨rfl, unhide HB _⟩
theorem fitting_any (b : Bool) (t n : Int) (s : ByteArray) (w : World) : Calls Tryz.prog 109 #[.bool b, cV t n s] w fun e w' => e = .returned (fit b ⟨t, n, s⟩).val ∧ Below w.heap.size w w' := by
  have HB : Hid (∀ o o2, Below w.heap.size w ((w.alloc o).alloc o2)) := Below.a2 w
  cases b
  · go_enter Tryz.func109, Tryz.ntmps109
    go_wp2_with fail
    exact bodyPost_ret (v := cV 0 0 ⟨#[]⟩) (by simp [results, Tryz.results109, go_sem]) rfl ⟨rfl, unhide HB _ _⟩
  · go_enter Tryz.func109, Tryz.ntmps109
    go_wp2_with fail
    exact bodyPost_ret (v := cV t n s) (by simp [results, Tryz.results109, go_sem]) rfl ⟨rfl, unhide HB _ _⟩
def errA (n : Int) : Int := if amt n then 0 else 10
theorem mcheck_any (n : Int) (w : World) : Calls Tryz.prog 130 #[.int .i64 n] w fun e w' => e = .returned (.int .i64 (errA n)) ∧ w' = w := by
  by_cases h : n = -9223372036854775808
  · subst h
    go_enter Tryz.func130, Tryz.ntmps130
    go_wp2_with fail
    go_ret
    exact ⟨rfl, rfl⟩
  · have e : errA n = 0 := by unfold errA amt; rw [beqF h]; rfl
    rw [e]
    go_enter Tryz.func130, Tryz.ntmps130
    go_wp2_with fail
    go_ret
    exact ⟨rfl, rfl⟩
theorem errA_eq (n : Int) : (errA n == 0) = amt n := by unfold errA; cases amt n <;> rfl
end Go.Proofs.YtbenciieenbmeaaGreatDoor
/- typing: typesOf 26. -/
namespace Go.Proofs.YtbenciieenbmeaaGreatDoor
open Go Go.Shelf Go.ChangeShapes Go.WideShapes Go.ChangeAt Go.RowKit Go.Maps
set_option linter.unusedVariables false
variable {α : Type} {K : Kd α}
theorem Rw.made (hK : KdOK K) (W : World) (c : Nat) (h1 : K.by' * c ≤ 281474976710656) (h2 : c ≤ 70000000000000) :
    ∃ w', (Instr.makeSlice K.t (.int .i64 0) (.int .i64 (c : Int))).run Tryz.prog W = .ok (.slice (some ⟨W.heap.size, 0, none⟩) 0 c) w' ∧ Rw K W w' (.slice (some ⟨W.heap.size, 0, none⟩) 0 c) 0 [] := by
  obtain ⟨i, z, hi, hz, hsize, hby, hzs⟩ := hK.info
  obtain ⟨w', h3, h4, h5⟩ := run_make_own (P := Tryz.prog) W W.heap.size K.t K.e i z K.s hK.und hi hz hsize .i64 .i64 c (by rw [hby]; exact h1) (by unfold maxLen; omega) (Nat.le_refl _)
  exact ⟨w', h3, h4, (Below.refl _ _).grown h5 (Nat.le_refl _) (fun k h => by cases h), rfl⟩
def ntS (x : Nd) (T : List Int) : Int := typS (narS x) T
/-- the types of nodes, each by those ahead of it -/
def tyL (L : List Nd) : List Int := L.foldl (fun T x => T ++ [ntS x T]) []
theorem tyL_snoc (L : List Nd) (x : Nd) : tyL (L ++ [x]) = tyL L ++ [ntS x (tyL L)] := by unfold tyL; rw [List.foldl_append]; rfl
theorem tyL_len (L : List Nd) : (tyL L).length = L.length := by
  suffices h : ∀ (T : List Int), (L.foldl (fun T x => T ++ [ntS x T]) T).length = T.length + L.length by simpa [tyL] using h []
  induction L with
  | nil => intro T; simp
  | cons x L ih => intro T; rw [List.foldl_cons, ih]; simp; omega
theorem tyL_take (L : List Nd) (k : Nat) (hk : k < L.length) : tyL (L.take (k + 1)) = tyL (L.take k) ++ [ntS L[k] (tyL (L.take k))] := by
  rw [List.take_succ_eq_append_getElem hk, tyL_snoc]
def ld37 (x : Value) : Sem Value := Instr.loadAt 51 x
theorem ld37_is (x : Value) : Instr.loadAt 51 x = ld37 x := rfl
theorem size37 : (Tryz.prog.info? 51).map (·.size) = some 6 := by kernel_rfl
theorem run_ld37 {w : World} {b o : Nat} {x : Nd} (h : w.rangeAt b o x.vals) : (ld37 (.pointer (some ⟨b, o, none⟩))).run Tryz.prog w = .ok x.val w :=
  run_loadAt_mid (P := Tryz.prog) w b o 51 x.vals _ h Tryz.underlying51 rfl size37
theorem new_range (w : World) (vs : List Value) (t : TypeId) : (w.alloc (.cells vs.toArray t)).rangeAt w.heap.size 0 vs := fun j u hu => by
  rw [World.cell?_alloc_mark, Nat.zero_add]; simpa using hu
attribute [local go_sem ↓] ld37_is
set_option maxRecDepth 100000
set_option maxHeartbeats 4000000
theorem typesOf_any {W : World} (hF : Flds W) (hM : Mon W) (hR : Recs W) {p : Option Addr} {n c : Nat} {L : List Nd} (hn : L.length = n) (hL : Lies kN W p L) (hb : n ≤ 2600000000000) :
    Calls Tryz.prog 41 #[.slice p n c] W fun e w' => ∃ q k, e = .returned (.slice q n k) ∧ Rw kI W w' (.slice q n k) n (tyL L) := by
  obtain ⟨w0, hmk, hr0⟩ := Rw.made kI_ok W n (by show 8 * n ≤ _; omega) (by omega)
  have hmk : (Instr.makeSlice 23 (.int .i64 0) (.int .i64 (n : Int))).run Tryz.prog W = .ok (.slice (some ⟨W.heap.size, 0, none⟩) 0 n) w0 := hmk
  have HR0 := hide hr0; have HF := hide hF; have HM := hide hM; have HR := hide hR; have HL := hide hL; have HN := hide hn
  clear hr0 hF hM hR hL hn
  go_enter Tryz.func41, Tryz.ntmps41
  go_wp2_with fail
  go_loopw [3, 11] (fun v3 v11 wr => ∃ (k : Nat) (q : Option Addr) (cq : Nat), v11 = .int .i64 k ∧ k ≤ n ∧ v3 = .slice q k cq ∧ Hid (Rw kI W wr (.slice q k cq) k (tyL (L.take k)))) (fun _ v11 _ => n - (intOf v11).toNat)
  case atStart => exact ⟨0, _, _, rfl, by omega, rfl, unhide HR0⟩
  case round =>
    obtain ⟨k, q, cq, rfl, hk, rfl, hrel⟩ := hrel
    by_cases hlt : k < n
    · have hkl : k < L.length := by rw [unhide HN]; exact hlt
      obtain ⟨b, off, e1, hbl, hr⟩ := (unhide HL).2 k hkl
      have htk := hide (tyL_take L k hkl)
      obtain ⟨x, hx⟩ : ∃ x, x = L[k] := ⟨_, rfl⟩
      rw [← hx] at hr htk
      have hB := (unhide hrel).bel
      have l1 := run_ld37 (w := wr) (b := b) (o := off + k * 6) (x := x) (fun j u hu => (hB.cell (p := ⟨b, off + k * 6 + j, none⟩) hbl).trans (hr j u hu))
      have l2 := run_ld37 (w := wr.alloc (.cells x.vals.toArray 51)) (b := wr.heap.size) (o := 0) (x := x) (new_range wr x.vals 51)
      have hwB : Below W.heap.size W (wr.alloc (.cells x.vals.toArray 51)) := hB.alloc hB.size _
      have d1 := hide (narrow_any (w := wr.alloc (.cells x.vals.toArray 51)) ((unhide HF).below hwB) ((unhide HM).below hwB) x)
      have d2 : Hid (∀ X, Below (wr.alloc (.cells x.vals.toArray 51)).heap.size (wr.alloc (.cells x.vals.toArray 51)) X → Calls Tryz.prog 60 #[(narS x).val, .slice q k cq] X fun e w' => e = .returned (.int .i64 (ntS x (tyL (L.take k)))) ∧ Below X.heap.size X w') := fun X hX =>
        typeOf_any ((unhide HR).below (hwB.trans (hX.mono hwB.size))) (unhide hrel).len (((((unhide hrel).below (Below.a1 wr _)).below hX).lies kI_ok)) (narS x)
      obtain ⟨nx, hnx⟩ : ∃ v, v = (narS x).val := ⟨_, rfl⟩
      obtain ⟨tx, htx⟩ : ∃ v, v = ntS x (tyL (L.take k)) := ⟨_, rfl⟩
      rw [← hnx] at d1 d2
      rw [← htx] at d2 htk
      obtain ⟨o, l, r, f, m, s⟩ := x
      unfold Nd.vals Nd.val at *
      have hkn : (k : Int) < (n : Int) := by omega
      have h3 : ¬ (k : Int) < 0 := by omega
      subst e1
      clear hr hx hB hwB hnx htx hbl
      go_wp2_with fail
      refine (unhide d1).mono ?_
      rintro e w1 ⟨rfl, hw⟩
      have HW1 := hide hw
      clear hw
      go_wp2_with fail
      refine (unhide d2 _ (unhide HW1)).mono ?_
      rintro e w2 ⟨rfl, hw⟩
      obtain ⟨p8, c8, w8, r8, o8⟩ := ((((unhide hrel).below (Below.a1 wr _)).below (unhide HW1)).below hw).put kI_ok tx #[.int .i64 tx] rfl 23 (by omega) (nat_bound (c := 2600000000000) (by omega) (by decide))
      have r8 : (Builtin.append_ #[23, 23] 23 #[.slice q k cq, .slice (some ⟨w2.heap.size, 0, none⟩) 1 1]).run Tryz.prog (w2.alloc (.cells #[.int .i64 tx] 3)) = .ok (.slice p8 (k + 1) c8) w8 := r8
      have HR8 := hide r8; have HO8 := hide o8
      clear hw r8 o8
      go_wp2_with (at_builtin; refine wpList_append_run rfl _ _ 23 rfl _ _ _ _ rfl rfl (unhide HR8) ?_)
      refine ⟨⟨k + 1, p8, c8, by go_num, by omega, rfl, ?_⟩, by simp [intOf]; omega⟩
      show Rw _ _ _ _ _ _
      rw [unhide htk]
      exact unhide HO8
    · have hkn : k = n := by omega
      subst hkn
      go_wp2_with fail
      go_ret
      refine ⟨_, _, rfl, ?_⟩
      have := unhide hrel
      rwa [List.take_of_length_le (by rw [unhide HN]; exact Nat.le_refl _)] at this
end Go.Proofs.YtbenciieenbmeaaGreatDoor
