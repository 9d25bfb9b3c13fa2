/- aged: num (13), act (23). -/
import Derived.Test.YtildpgfhahmgmaaDoorNwA
namespace Go.Proofs.YtildpgfhahmgmaaDoor
open Go Go.Shelf Go.ChangeShapes Go.WideShapes Go.ChangeAt Go.RowKit Go.Maps
set_option linter.unusedVariables false
theorem num_any (x : Int) (w : World) : Calls Tryd.prog 13 #[.int .i64 x] w fun e w' => e = .returned (.int .i64 x) ∧ w' = w := by
  go_enter Tryd.func13, Tryd.ntmps13
  go_wp2_with fail
  go_ret
  exact ⟨rfl, rfl⟩
/-- an act -/
structure OpV where
  view : Int
  kind : Int
  day : Int
  c : Cl
  a : Al
  acct : ByteArray
  vcs : Value
  vas : Value
def OpV.arr (o : OpV) : Array Value := #[.int .i64 o.view, .int .i64 o.kind, .int .i64 o.day, .string o.c.key, .string o.c.acc, .int .i64 o.c.day, .int .i64 o.c.due, .int .i64 o.c.amt, .string o.a.pay, .string o.a.inv, .int .i64 o.a.day, .int .i64 o.a.amt, .string o.acct, o.vcs, o.vas]
structure OpOk (o : OpV) : Prop where
  k : o.c.key.size ≤ maxLen
  a : o.c.acc.size ≤ maxLen
  i : o.a.inv.size ≤ maxLen
  n : o.acct.size ≤ maxLen
  m : o.c.amt ≤ 9223372036854775807
def actS (C : List Cl) (A : List Al) (g : Int) (o : OpV) : Int := if o.kind = 3 then invS C o.c else if o.kind = 4 then allS C A o.a else if o.kind = 5 then advS g o.day else 0
def actC (C : List Cl) (o : OpV) : List Cl := if o.kind = 3 ∧ invS C o.c = 0 then C ++ [o.c] else C
def actA (C : List Cl) (A : List Al) (o : OpV) : List Al := if o.kind = 4 ∧ allS C A o.a = 0 then A ++ [o.a] else A
def actG (g : Int) (o : OpV) : Int := if o.kind = 5 ∧ advS g o.day = 0 then o.day - 1 else g
theorem vw_same {W w' : World} {d : Nat} {S : Nat → Prop} {C : List Cl} {A : List Al} {g : Int} (h : Vw W d S C A g) (hb : Below W.heap.size W w') : VwNext W w' d S C A g := ⟨S, h.below hb, Fr.of_below hb _, fun b hs => .inl hs⟩
theorem VwNext.after {W X w' : World} {d : Nat} {S : Nat → Prop} {C : List Cl} {A : List Al} {g : Int} (hb : Below W.heap.size W X) (h : VwNext X w' d S C A g) : VwNext W w' d S C A g := by
  obtain ⟨S', h1, h2, h3⟩ := h
  exact ⟨S', h1, (Fr.of_below hb S).trans h2 (fun _ _ h => h), fun b hs => (h3 b hs).imp id (fun h => Nat.le_trans hb.size h)⟩
attribute [local go_sem ↓] ld37_is ld51_is
set_option maxRecDepth 100000 in
set_option maxHeartbeats 8000000 in
theorem act_any {W : World} {d : Nat} {S : Nat → Prop} {C : List Cl} {A : List Al} {g : Int} (hV : Vw W d S C A g) (hS : Stp W) {o : OpV} (ho : OpOk o) :
    Calls Tryd.prog 23 #[ptr d, .agg o.arr] W fun e w' => e = .returned (.int .i64 (actS C A g o)) ∧ VwNext W w' d S (actC C o) (actA C A o) (actG g o) := by
  obtain ⟨bx, hbx⟩ : ∃ bx, bx = W.heap.size := ⟨_, rfl⟩
  obtain ⟨X, hX⟩ : ∃ X, X = W.alloc (.cells o.arr 53) := ⟨_, rfl⟩
  have hbX : Below W.heap.size W X := by rw [hX]; exact (Below.refl _ _).alloc (Nat.le_refl _) _
  have hVX := hV.below hbX
  have hSX := hS.below hbX
  have hXb : X.heap[bx]? = some (.cells o.arr 53 (0, 0)) := by rw [hX, hbx]; exact heap_new _ _
  have x1 : X.cell? ⟨bx, 1, none⟩ = some (.int .i64 o.kind) := by rw [cell_at hXb]; rfl
  have x2 : X.cell? ⟨bx, 2, none⟩ = some (.int .i64 o.day) := by rw [cell_at hXb]; rfl
  have hl1 := run_ld37 (w := X) (b := bx) (o := 3) (c := o.c) (fun i v hv => by
    rw [cell_at hXb]
    unfold OpV.arr
    unfold Cl.vals at hv
    have hi : i < 5 := (List.getElem?_eq_some_iff.1 hv).1
    have : i = 0 ∨ i = 1 ∨ i = 2 ∨ i = 3 ∨ i = 4 := by omega
    rcases this with rfl | rfl | rfl | rfl | rfl <;> simpa using hv)
  have hl2 := run_ld51 (w := X) (b := bx) (o := 8) (x := o.a) (fun i v hv => by
    rw [cell_at hXb]
    unfold OpV.arr
    unfold Al.vals at hv
    have hi : i < 4 := (List.getElem?_eq_some_iff.1 hv).1
    have : i = 0 ∨ i = 1 ∨ i = 2 ∨ i = 3 := by omega
    rcases this with rfl | rfl | rfl | rfl <;> simpa using hv)
  have dN := hide num_any
  have HX : Hid (X = W.alloc (.cells o.arr 53)) := hX
  unfold OpV.arr at HX ⊢
  have HBX := hide hbx
  by_cases k3 : o.kind = 3
  · have eS : actS C A g o = invS C o.c := by unfold actS; rw [if_pos k3]
    have eA : actA C A o = A := by unfold actA; rw [if_neg (by omega)]
    have eG : actG g o = g := by unfold actG; rw [if_neg (by omega)]
    have dI := hide (invoice_any hVX hSX (c := o.c) ho.k ho.a ho.m)
    have HO : Hid (∀ w', InvOut X w' d S C A g o.c → VwNext W w' d S (actC C o) (actA C A o) (actG g o)) := fun w' h => by
      rw [eA, eG]
      unfold actC
      by_cases e : invS C o.c = 0
      · rw [if_pos ⟨k3, e⟩]; exact (h.2 e).after hbX
      · rw [if_neg (fun hh => e hh.2)]; exact vw_same hV (hbX.trans ((h.1 e).mono hbX.size))
    rw [eS]
    obtain ⟨r, hr⟩ : ∃ r, r = invS C o.c := ⟨_, rfl⟩
    rw [← hr] at dI ⊢
    rw [k3] at x1
    unfold ptr at dI ⊢
    clear hV hVX hS hSX hXb hX hbx eS eA eG hr hbX k3
    go_enter Tryd.func23, Tryd.ntmps23
    go_upto_region 1 with fail
    rw [← unhide HX, ← unhide HBX]
    clear HX HBX
    go_wp2_with fail
    refine (unhide dI).mono ?_
    rintro e w1 ⟨rfl, hi⟩
    have HI := hide (unhide HO w1 hi)
    clear hi dI
    go_wp2_with fail
    refine (unhide dN _ _).mono ?_
    rintro e w2 ⟨rfl, hw⟩
    rw [hw]
    clear hw w2 dN
    go_wp2_with fail
    go_ret
    exact ⟨rfl, unhide HI⟩
  by_cases k4 : o.kind = 4
  · have eS : actS C A g o = allS C A o.a := by unfold actS; rw [if_neg k3, if_pos k4]
    have eC : actC C o = C := by unfold actC; rw [if_neg (by omega)]
    have eG : actG g o = g := by unfold actG; rw [if_neg (by omega)]
    have dI := hide (allot_any hVX hSX (x := o.a) ho.i)
    have HO : Hid (∀ w', AllOut X w' d S C A g o.a → VwNext W w' d S (actC C o) (actA C A o) (actG g o)) := fun w' h => by
      rw [eC, eG]
      unfold actA
      by_cases e : allS C A o.a = 0
      · rw [if_pos ⟨k4, e⟩]; exact (h.2 e).after hbX
      · rw [if_neg (fun hh => e hh.2)]; exact vw_same hV (hbX.trans ((h.1 e).mono hbX.size))
    rw [eS]
    obtain ⟨r, hr⟩ : ∃ r, r = allS C A o.a := ⟨_, rfl⟩
    rw [← hr] at dI ⊢
    rw [k4] at x1
    unfold ptr at dI ⊢
    clear hV hVX hS hSX hXb hX hbx eS eC eG hr hbX k4 k3
    go_enter Tryd.func23, Tryd.ntmps23
    go_upto_region 1 with fail
    rw [← unhide HX, ← unhide HBX]
    clear HX HBX
    go_wp2_with fail
    refine (unhide dI).mono ?_
    rintro e w1 ⟨rfl, hi⟩
    have HI := hide (unhide HO w1 hi)
    clear hi dI
    go_wp2_with fail
    refine (unhide dN _ _).mono ?_
    rintro e w2 ⟨rfl, hw⟩
    rw [hw]
    clear hw w2 dN
    go_wp2_with fail
    go_ret
    exact ⟨rfl, unhide HI⟩
  by_cases k5 : o.kind = 5
  · have eS : actS C A g o = advS g o.day := by unfold actS; rw [if_neg k3, if_neg k4, if_pos k5]
    have eC : actC C o = C := by unfold actC; rw [if_neg (by omega)]
    have eA : actA C A o = A := by unfold actA; rw [if_neg (by omega)]
    have dI := hide (advance_any hVX hSX o.day)
    have HO : Hid (∀ w', AdvOut X w' d S C A g o.day → VwNext W w' d S (actC C o) (actA C A o) (actG g o)) := fun w' h => by
      rw [eC, eA]
      unfold actG
      by_cases e : advS g o.day = 0
      · rw [if_pos ⟨k5, e⟩]; exact (h.2 e).after hbX
      · rw [if_neg (fun hh => e hh.2), h.1 e]; exact vw_same hV hbX
    rw [eS]
    obtain ⟨r, hr⟩ : ∃ r, r = advS g o.day := ⟨_, rfl⟩
    rw [← hr] at dI ⊢
    rw [k5] at x1
    unfold ptr at dI ⊢
    clear hV hVX hS hSX hXb hX hbx eS eC eA hr hbX k5 k4 k3
    go_enter Tryd.func23, Tryd.ntmps23
    go_upto_region 1 with fail
    rw [← unhide HX, ← unhide HBX]
    clear HX HBX
    go_wp2_with fail
    refine (unhide dI).mono ?_
    rintro e w1 ⟨rfl, hi⟩
    have HI := hide (unhide HO w1 hi)
    clear hi dI
    go_wp2_with fail
    refine (unhide dN _ _).mono ?_
    rintro e w2 ⟨rfl, hw⟩
    rw [hw]
    clear hw w2 dN
    go_wp2_with fail
    go_ret
    exact ⟨rfl, unhide HI⟩
  · have eS : actS C A g o = 0 := by unfold actS; rw [if_neg k3, if_neg k4, if_neg k5]
    have HI : Hid (VwNext W X d S (actC C o) (actA C A o) (actG g o)) := by
      unfold actC actA actG
      rw [if_neg (fun h => k3 h.1), if_neg (fun h => k4 h.1), if_neg (fun h => k5 h.1)]
      exact vw_same hV hbX
    rw [eS]
    have b3 : (o.kind == 3) = false := by rw [beq_eq_false_iff_ne]; exact k3
    have b4 : (o.kind == 4) = false := by rw [beq_eq_false_iff_ne]; exact k4
    have b5 : (o.kind == 5) = false := by rw [beq_eq_false_iff_ne]; exact k5
    unfold ptr
    clear hV hVX hS hSX hXb hX hbx eS hbX
    go_enter Tryd.func23, Tryd.ntmps23
    go_upto_region 1 with fail
    rw [← unhide HX, ← unhide HBX]
    clear HX HBX
    go_wp2_with fail
    go_ret
    exact ⟨rfl, unhide HI⟩
end Go.Proofs.YtildpgfhahmgmaaDoor
