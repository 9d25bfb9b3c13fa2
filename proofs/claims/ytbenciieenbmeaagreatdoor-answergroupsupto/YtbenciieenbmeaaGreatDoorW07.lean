import Derived.Test.YtbenciieenbmeaaGreatDoorW03
import Derived.Test.YtbenciieenbmeaaGreatDoorW06
/- answer: a cell put into its block; numberOf 110. -/
namespace Go.Proofs.YtbenciieenbmeaaGreatDoor
open Go Go.Shelf Go.ChangeShapes Go.WideShapes Go.ChangeAt Go.RowKit Go.Maps
set_option linter.unusedVariables false
theorem szC : (Tryz.prog.info? 45).map (·.size) = some 3 := by kernel_rfl
def stC (x y : Value) : Sem Unit := Instr.storeAt 45 x y
theorem stC_is (x y : Value) : Instr.storeAt 45 x y = stC x y := rfl
def ldC (x : Value) : Sem Value := Instr.loadAt 45 x
theorem ldC_is (x : Value) : Instr.loadAt 45 x = ldC x := rfl
theorem setC {w : World} {b i : Nat} {cs : Array Value} {y : Value} {t : TypeId} (h : w.heap[b]? = some (.cells cs t (0, 0))) : (w.setCell ⟨b, i, none⟩ y).heap[b]? = some (.cells (cs.setIfInBounds i y) t (0, 0)) := by
  simp [World.setCell, Array.getElem?_modify, h]
theorem below_setCs {B b : Nat} (hb : B ≤ b) (l : List Value) : ∀ (o : Nat) (a w : World), Below B a w → Below B a (w.setCells b o l) := by
  induction l with
  | nil => exact fun o a w h => h
  | cons v l ih => exact fun o a w h => ih (o + 1) a _ (h.setCell hb v)
theorem cellOf {W : World} {b i : Nat} {xs : Array Value} {t : TypeId} {f : Nat × Nat} (h : W.heap[b]? = some (.cells xs t f)) : W.cell? ⟨b, i, none⟩ = xs[i]? := by simp [World.cell?, h]
/-- a cell is put into its block -/
theorem put45 {X : World} {n : Nat} {x0 x1 x2 : Value} (h0 : X.heap[n]? = some (.cells #[x0, x1, x2] 45 (0, 0))) (c : Cl) :
    ∃ Y, (stC (.pointer (some ⟨n, 0, none⟩)) c.val).run Tryz.prog X = .ok () Y ∧ Y.cell? ⟨n, 0, none⟩ = some (.int .i64 c.ty) ∧ Y.cell? ⟨n, 1, none⟩ = some (.int .i64 c.num) ∧ Y.cell? ⟨n, 2, none⟩ = some (.string c.tx) ∧ (∀ B A, B ≤ n → Below B A X → Below B A Y) := by
  obtain ⟨cs, hcs⟩ : ∃ cs : Array Value, cs = #[x0, x1, x2] := ⟨_, rfl⟩
  have h : X.heap[n]? = some (.cells cs 45 (0, 0)) := by rw [hcs]; exact h0
  have hsz : cs.size = 3 := by rw [hcs]; rfl
  have hs := run_storeAt_mid (P := Tryz.prog) X n 0 45 #[.int .i64 c.ty, .int .i64 c.num, .string c.tx] (fun j hj => by
    have hj' : j < cs.size := by rw [hsz]; exact hj
    simp [World.cell?, World.frozen?, h, hj']) szC (by simp; exact ⟨rfl, rfl, rfl⟩)
  have hy : (X.setCells n 0 [.int .i64 c.ty, .int .i64 c.num, .string c.tx]).heap[n]? = some (.cells #[.int .i64 c.ty, .int .i64 c.num, .string c.tx] 45 (0, 0)) := by
    show (((X.setCell ⟨n, 0, none⟩ _).setCell ⟨n, 0 + 1, none⟩ _).setCell ⟨n, 0 + 1 + 1, none⟩ _).heap[n]? = _
    rw [setC (setC (setC h)), hcs]
    rfl
  exact ⟨_, hs, by rw [cellOf hy]; rfl, by rw [cellOf hy]; rfl, by rw [cellOf hy]; rfl, fun B A hB hX => below_setCs hB _ _ _ _ hX⟩
abbrev zc : Obj := .cells #[.int .i64 0, .int .i64 0, .string ⟨#[]⟩] 45
abbrev cO (t n : Int) (s : ByteArray) : Obj := .cells #[.int .i64 t, .int .i64 n, .string s] 45
theorem isOver_ex (t n : Int) (s : ByteArray) (w : World) : Calls Tryz.prog 78 #[cV t n s] w fun e w' => e = .returned (.bool (t == 0)) ∧ w' = w.alloc (cO t n s) := by
  go_enter Tryz.func78, Tryz.ntmps78
  go_wp2_with fail
  go_ret
  exact ⟨rfl, rfl⟩
theorem isTrue_ex (t n : Int) (s : ByteArray) (w : World) : Calls Tryz.prog 79 #[cV t n s] w fun e w' => e = .returned (.bool (n == 1)) ∧ w' = w.alloc (cO t n s) := by
  go_enter Tryz.func79, Tryz.ntmps79
  go_wp2_with fail
  go_ret
  exact ⟨rfl, rfl⟩
attribute [local go_sem ↓] stC_is
theorem numberOf_any (t n : Int) (w : World) : Calls Tryz.prog 110 #[.int .i64 t, .int .i64 n] w fun e w' => e = .returned (numC t n).val ∧ Below w.heap.size w w' := by
  have hc : numC t n = fit (errA n == 0) ⟨t, n, ⟨#[]⟩⟩ := by unfold numC; rw [errA_eq]
  rw [hc]
  have d0 := hide (mcheck_any n)
  have d := hide fitting_any
  have HB : Hid (∀ o, Below w.heap.size w (w.alloc o)) := Below.a1 w
  obtain ⟨a, ha⟩ : ∃ a, a = errA n := ⟨_, rfl⟩
  rw [← ha] at d0 ⊢
  clear ha hc
  go_enter Tryz.func110, Tryz.ntmps110
  go_wp2_with (first | (go_at_call 130; refine (unhide d0 _).mono ?_; rintro e w' ⟨rfl, hw⟩; subst hw))
  refine (unhide d _ _ _ _ _).mono ?_
  rintro e w1 ⟨rfl, hb⟩
  obtain ⟨Y, hp, y0, y1, y2, hk⟩ := put45 (n := w.heap.size) ((hb.block _ (by simp)).trans (heap_new _ _)) (fit (a == 0) ⟨t, n, ⟨#[]⟩⟩)
  have HK := hide (hk w.heap.size w (Nat.le_refl _) ((unhide HB _).trans (hb.mono (by simp))))
  obtain ⟨c, hc⟩ : ∃ c, c = fit (a == 0) ⟨t, n, ⟨#[]⟩⟩ := ⟨_, rfl⟩
  rw [← hc] at hp y0 y1 y2
  have HV := hide (congrArg (fun c : Cl => Ending.returned c.val) hc)
  rw [← hc]
  clear hb hk hc
  go_wp2_with fail
  exact bodyPost_ret (v := cV c.ty c.num c.tx) (by simp [results, Tryz.results110, go_sem, y0, y1, y2]) rfl ⟨unhide HV, unhide HK⟩
end Go.Proofs.YtbenciieenbmeaaGreatDoor
/- answer: opposite 122, chosen 123. -/
namespace Go.Proofs.YtbenciieenbmeaaGreatDoor
open Go Go.Shelf Go.ChangeShapes Go.WideShapes Go.ChangeAt Go.RowKit Go.Maps
set_option linter.unusedVariables false
theorem truthOf_ex (b : Bool) (w : World) : Calls Tryz.prog 77 #[.bool b] w fun e w' => e = .returned (cV 4 (boolI b) ⟨#[]⟩) ∧ w' = w.alloc (cO 4 (boolI b) ⟨#[]⟩) := by
  cases b
  · go_enter Tryz.func77, Tryz.ntmps77
    go_wp2_with fail
    exact bodyPost_ret (v := cV 4 0 ⟨#[]⟩) (by simp [results, Tryz.results77, go_sem]) rfl ⟨rfl, rfl⟩
  · go_enter Tryz.func77, Tryz.ntmps77
    go_wp2_with fail
    exact bodyPost_ret (v := cV 4 1 ⟨#[]⟩) (by simp [results, Tryz.results77, go_sem]) rfl ⟨rfl, rfl⟩
theorem Below.a3 (w : World) (o o2 o3 : Obj) : Below w.heap.size w (((w.alloc o).alloc o2).alloc o3) := (Below.a2 w o o2).alloc (by simp; omega) o3
theorem Below.a4 (w : World) (o o2 o3 o4 : Obj) : Below w.heap.size w ((((w.alloc o).alloc o2).alloc o3).alloc o4) := (Below.a3 w o o2 o3).alloc (by simp; omega) o4
theorem Below.a5 (w : World) (o o2 o3 o4 o5 : Obj) : Below w.heap.size w (((((w.alloc o).alloc o2).alloc o3).alloc o4).alloc o5) := (Below.a4 w o o2 o3 o4).alloc (by simp; omega) o5
theorem blk2 (w : World) (o o2 : Obj) : ((w.alloc o).alloc o2).heap[w.heap.size + 1]? = some o2 := by
  have := heap_new (w.alloc o) o2
  rw [World.size_alloc] at this
  exact this
theorem blk3 (w : World) (o o2 o3 : Obj) : (((w.alloc o).alloc o2).alloc o3).heap[w.heap.size + 1]? = some o2 := by
  rw [Below.heap_alloc _ _ _ (by simp)]; exact blk2 w o o2
/-- the opposite -/
def opp (c : Cl) : Cl := if c.ty = 0 then c else if c.ty = 4 then tru (!(c.num == 1)) else numC c.ty (wrap64 (-c.num))
theorem opp0 (n : Int) (s : ByteArray) (w : World) : Calls Tryz.prog 122 #[cV 0 n s] w fun e w' => e = .returned (cV 0 n s) ∧ Below w.heap.size w w' := by
  have HB : Hid (∀ o o2 o3, Below w.heap.size w (((w.alloc o).alloc o2).alloc o3)) := Below.a3 w
  have d := hide isOver_ex
  go_enter Tryz.func122, Tryz.ntmps122
  go_wp2_with (first | (go_at_call 78; refine (unhide d _ _ _ _).mono ?_; rintro e w' ⟨rfl, hw⟩; subst hw))
  exact bodyPost_ret (v := cV 0 n s) (by simp [results, Tryz.results122, go_sem]) rfl ⟨rfl, unhide HB _ _ _⟩
theorem opp4 (n : Int) (s : ByteArray) (w : World) : Calls Tryz.prog 122 #[cV 4 n s] w fun e w' => e = .returned (tru (!(n == 1))).val ∧ Below w.heap.size w w' := by
  have HB : Hid (∀ o o2 o3 o4 o5, Below w.heap.size w (((((w.alloc o).alloc o2).alloc o3).alloc o4).alloc o5)) := Below.a5 w
  have d := hide isOver_ex
  have d1 := hide isTrue_ex
  have d2 := hide truthOf_ex
  go_enter Tryz.func122, Tryz.ntmps122
  go_wp2_with (first | (go_at_call 78; refine (unhide d _ _ _ _).mono ?_; rintro e w' ⟨rfl, hw⟩; subst hw) | (go_at_call 79; refine (unhide d1 _ _ _ _).mono ?_; rintro e w' ⟨rfl, hw⟩; subst hw) | (go_at_call 77; refine (unhide d2 _ _).mono ?_; rintro e w' ⟨rfl, hw⟩; subst hw))
  exact bodyPost_ret (v := cV 4 (boolI (!(n == 1))) ⟨#[]⟩) (by simp [results, Tryz.results122, go_sem]) rfl ⟨rfl, unhide HB _ _ _ _ _⟩
section
attribute [local go_sem ↓] stC_is
theorem oppN (t n : Int) (s : ByteArray) (w : World) (h0 : ¬ t = 0) (h4 : ¬ t = 4) : Calls Tryz.prog 122 #[cV t n s] w fun e w' => e = .returned (numC t (wrap64 (-n))).val ∧ Below w.heap.size w w' := by
  have HB : Hid (∀ o o2 o3, Below w.heap.size w (((w.alloc o).alloc o2).alloc o3)) := Below.a3 w
  have d := hide isOver_ex
  have d1 := hide numberOf_any
  have e0 := beqF h0
  have e4 := beqF h4
  clear h0 h4
  go_enter Tryz.func122, Tryz.ntmps122
  go_wp2_with (first | (go_at_call 78; refine (unhide d _ _ _ _).mono ?_; rintro e w' ⟨rfl, hw⟩; subst hw))
  refine (unhide d1 _ _ _).mono ?_
  rintro e w1 ⟨rfl, hb⟩
  obtain ⟨Y, hp, y0, y1, y2, hk⟩ := put45 (n := w.heap.size + 1) ((hb.block _ (by simp)).trans (blk3 _ _ _ _)) (numC t (wrap64 (-n)))
  have HK := hide (hk w.heap.size w (by simp) ((unhide HB _ _ _).trans (hb.mono (by simp; try omega))))
  obtain ⟨c, hc⟩ : ∃ c : Cl, c = numC t (wrap64 (-n)) := ⟨_, rfl⟩
  rw [← hc] at hp y0 y1 y2
  have HV := hide (congrArg (fun c : Cl => Ending.returned c.val) hc)
  rw [← hc]
  clear hb hk hc
  go_wp2_with fail
  exact bodyPost_ret (v := cV c.ty c.num c.tx) (by simp [results, Tryz.results122, go_sem, y0, y1, y2]) rfl ⟨unhide HV, unhide HK⟩
end
theorem opp_any (c : Cl) (w : World) : Calls Tryz.prog 122 #[c.val] w fun e w' => e = .returned (opp c).val ∧ Below w.heap.size w w' := by
  obtain ⟨t, n, s⟩ := c
  by_cases h0 : t = 0
  · subst h0; exact opp0 n s w
  by_cases h4 : t = 4
  · subst h4; exact opp4 n s w
  have e : opp ⟨t, n, s⟩ = numC t (wrap64 (-n)) := by unfold opp; rw [if_neg h0, if_neg h4]
  rw [e]
  exact oppN t n s w h0 h4
/-- and, or -/
def cho (l r : Cl) (b : Bool) : Cl := if l.ty = 0 ∨ ¬ (l.num == 1) = b then l else r
theorem cho0 (n : Int) (s : ByteArray) (t2 n2 : Int) (s2 : ByteArray) (b : Bool) (w : World) : Calls Tryz.prog 123 #[cV 0 n s, cV t2 n2 s2, .bool b] w fun e w' => e = .returned (cV 0 n s) ∧ Below w.heap.size w w' := by
  have HB : Hid (∀ o o2 o3 o4, Below w.heap.size w ((((w.alloc o).alloc o2).alloc o3).alloc o4)) := Below.a4 w
  have d := hide isOver_ex
  go_enter Tryz.func123, Tryz.ntmps123
  go_wp2_with (first | (go_at_call 78; refine (unhide d _ _ _ _).mono ?_; rintro e w' ⟨rfl, hw⟩; subst hw))
  exact bodyPost_ret (v := cV 0 n s) (by simp [results, Tryz.results123, go_sem]) rfl ⟨rfl, unhide HB _ _ _ _⟩
theorem choN (t n : Int) (s : ByteArray) (t2 n2 : Int) (s2 : ByteArray) (b : Bool) (w : World) (h0 : ¬ t = 0) : Calls Tryz.prog 123 #[cV t n s, cV t2 n2 s2, .bool b] w fun e w' => e = .returned (cho ⟨t, n, s⟩ ⟨t2, n2, s2⟩ b).val ∧ Below w.heap.size w w' := by
  have HB : Hid (∀ o o2 o3 o4 o5, Below w.heap.size w (((((w.alloc o).alloc o2).alloc o3).alloc o4).alloc o5)) := Below.a5 w
  have d := hide isOver_ex
  have d1 := hide isTrue_ex
  have e0 := beqF h0
  by_cases h1 : (n == 1) = b
  · have ec : cho ⟨t, n, s⟩ ⟨t2, n2, s2⟩ b = ⟨t2, n2, s2⟩ := by unfold cho; rw [if_neg]; rintro (h | h); exact h0 h; exact h h1
    rw [ec]
    clear ec h0
    subst h1
    go_enter Tryz.func123, Tryz.ntmps123
    go_wp2_with (first | (go_at_call 78; refine (unhide d _ _ _ _).mono ?_; rintro e w' ⟨rfl, hw⟩; subst hw) | (go_at_call 79; refine (unhide d1 _ _ _ _).mono ?_; rintro e w' ⟨rfl, hw⟩; subst hw))
    exact bodyPost_ret (v := cV t2 n2 s2) (by simp [results, Tryz.results123, go_sem]) rfl ⟨rfl, unhide HB _ _ _ _ _⟩
  · have ec : cho ⟨t, n, s⟩ ⟨t2, n2, s2⟩ b = ⟨t, n, s⟩ := by unfold cho; rw [if_pos (.inr h1)]
    rw [ec]
    clear ec h0
    obtain ⟨a, ha⟩ : ∃ a, a = (n == 1) := ⟨_, rfl⟩
    have hb : b = !a := by rw [ha]; revert h1; cases (n == 1) <;> cases b <;> simp
    subst hb
    have HA := hide ha
    have d2 : Hid (∀ w : World, Calls Tryz.prog 79 #[cV t n s] w fun e w' => e = .returned (.bool a) ∧ w' = w.alloc (cO t n s)) := fun w => by rw [ha]; exact isTrue_ex t n s w
    clear ha h1 d1
    cases a
    · go_enter Tryz.func123, Tryz.ntmps123
      go_wp2_with (first | (go_at_call 78; refine (unhide d _ _ _ _).mono ?_; rintro e w' ⟨rfl, hw⟩; subst hw) | (go_at_call 79; refine (unhide d2 _).mono ?_; rintro e w' ⟨rfl, hw⟩; subst hw))
      exact bodyPost_ret (v := cV t n s) (by simp [results, Tryz.results123, go_sem]) rfl ⟨rfl, unhide HB _ _ _ _ _⟩
    · go_enter Tryz.func123, Tryz.ntmps123
      go_wp2_with (first | (go_at_call 78; refine (unhide d _ _ _ _).mono ?_; rintro e w' ⟨rfl, hw⟩; subst hw) | (go_at_call 79; refine (unhide d2 _).mono ?_; rintro e w' ⟨rfl, hw⟩; subst hw))
      exact bodyPost_ret (v := cV t n s) (by simp [results, Tryz.results123, go_sem]) rfl ⟨rfl, unhide HB _ _ _ _ _⟩
theorem cho_any (l r : Cl) (b : Bool) (w : World) : Calls Tryz.prog 123 #[l.val, r.val, .bool b] w fun e w' => e = .returned (cho l r b).val ∧ Below w.heap.size w w' := by
  obtain ⟨t, n, s⟩ := l
  obtain ⟨t2, n2, s2⟩ := r
  by_cases h0 : t = 0
  · subst h0
    have e : cho ⟨0, n, s⟩ ⟨t2, n2, s2⟩ b = ⟨0, n, s⟩ := by unfold cho; rw [if_pos (.inl rfl)]
    rw [e]
    exact cho0 n s t2 n2 s2 b w
  · exact choN t n s t2 n2 s2 b w h0
end Go.Proofs.YtbenciieenbmeaaGreatDoor
