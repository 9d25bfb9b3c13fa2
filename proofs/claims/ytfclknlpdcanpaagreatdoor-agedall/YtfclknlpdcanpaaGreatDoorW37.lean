import Derived.Test.YtfclknlpdcanpaaGreatDoorW36
/- A play: one step (9): Invoice, Allot, Advance, Now, At. By tools/sta.py. -/
namespace Go.Proofs.YtfclknlpdcanpaaGreatDoor.Kg
open Go Go.Shelf Go.ChangeShapes Go.WideShapes Go.ChangeAt Go.RowKit Go.Maps
set_option linter.unusedVariables false
set_option linter.unusedSimpArgs false
/-- the first of two calls leaves all but the view alone -/
def Beside (W w1 : World) (t : Tw) : Prop := W.heap.size ≤ w1.heap.size ∧ ∀ q, q < W.heap.size → ¬ t.fp q → w1.heap[q]? = W.heap[q]?
/-- what both have made of a pair -/
def Went2 (w0 w2 : World) (y : Nat) (T : Nat → Option Tw) (U : Nat → Prop) (j : Nat) (t : Tw) : Prop := ∃ t', t'.pb = t.pb ∧ t'.rb = t.rb ∧ PlayIs w0 w2 y (updT T j (some t')) U
theorem updT_self {T : Nat → Option Tw} {j : Nat} {t : Tw} (h : T j = some t) : updT T j (some t) = T := by
  funext i
  unfold updT
  split
  · next e => rw [e, h]
  · rfl
theorem PlayIs.went {w0 W w2 : World} {y : Nat} {T : Nat → Option Tw} {U : Nat → Prop} (h : PlayIs w0 W y T U) {j : Nat} {t : Tw} (ht : T j = some t) (hb : Below W.heap.size W w2) : Went2 w0 w2 y T U j t := ⟨t, rfl, rfl, by rw [updT_self ht]; exact h.below hb⟩
/-- both views go on, or both stand -/
theorem PlayIs.both {w0 W w1 w2 : World} {y : Nat} {T : Nat → Option Tw} {U : Nat → Prop} (h : PlayIs w0 W y T U) {j : Nat} (hj : j < 3) {t : Tw} (ht : T j = some t) {C : List Cl} {A : List Al} {g : Int} (hp : VwNext W w1 t.pb t.S C A g) (hr : RvNext w1 w2 t.rb t.V C A g) : Went2 w0 w2 y T U j t := by
  obtain ⟨t', e1, e2, h1, h2⟩ := (h.tw j hj t ht).next hp (fun _ e => by rw [e]; exact hr)
  exact ⟨t', e1, e2, h.change hj ht e1 e2 h1 h2⟩
section
variable {P : Program} {ops : Array Oper} {Q : Exit → Act → World → Prop} {md : Region.Mode} {S : World → Prop} {n : Nat}
theorem wpAnyL_mono {S' : World → Prop} (hS : ∀ W, S' W → S W) : ∀ (fuel : Nat) (listed : Array Bool) (a : Act) (w : World), wpAnyL P md ops Q S' n fuel listed a w → wpAnyL P md ops Q S n fuel listed a w
  | 0, _, _, _, h => h
  | fuel + 1, _, _, _, h => ⟨h.1, fun i hi => wpOp_mono (fun a' w' h' => ⟨fun e => hS _ (h'.1 e), wpAnyL_mono hS fuel _ a' w' h'.2⟩) (h.2 i hi)⟩
end
theorem VwNext.beside {W w1 : World} {t : Tw} {C : List Cl} {A : List Al} {g : Int} (h : VwNext W w1 t.pb t.S C A g) : Beside W w1 t := by
  obtain ⟨S', _, h2, _⟩ := h
  exact ⟨h2.size, fun q hq hn => h2.block q hq (fun e => hn (.inl e))⟩
theorem VwNext.rv {W w1 : World} {t : Tw} {C : List Cl} {A : List Al} {g : Int} (h : VwNext W w1 t.pb t.S C A g) (ht : TwOK W t) : Rv w1 t.rb t.V t.C t.A t.g := by
  obtain ⟨S', _, h2, _⟩ := h
  exact ht.r.fr h2 (fun b hb hs => ht.a b hs hb)
theorem RvNext.beside {W w1 : World} {t : Tw} {C : List Cl} {A : List Al} {g : Int} (h : RvNext W w1 t.rb t.V C A g) : Beside W w1 t := by
  obtain ⟨S', _, h2, _⟩ := h
  exact ⟨h2.size, fun q hq hn => h2.block q hq (fun e => hn (.inr e))⟩
theorem Beside.below {W w1 : World} {t : Tw} (h : Below W.heap.size W w1) : Beside W w1 t := ⟨h.size, fun q hq _ => h.block q hq⟩
theorem two_inv {w0 W : World} {y : Nat} {T : Nat → Option Tw} {U : Nat → Prop} (h : PlayIs w0 W y T U) {j : Nat} (hj : j < 3) {t : Tw} (ht : T j = some t) {c : Cl} (hk : c.key.size ≤ maxLen) (ha : c.acc.size ≤ maxLen) (hm : c.amt ≤ 9223372036854775807) :
    Calls Tryz.prog 17 #[ptr t.pb, .agg #[.string c.key, .string c.acc, .int .i64 c.day, .int .i64 c.due, .int .i64 c.amt]] W fun e w1 => e = .returned (.int .i64 (invS t.C c)) ∧ Beside W w1 t ∧ Calls Tryz.prog 18 #[.pointer (some ⟨t.rb, 0, none⟩), .agg #[.string c.key, .string c.acc, .int .i64 c.day, .int .i64 c.due, .int .i64 c.amt]] w1 fun e w2 => e = .returned (.int .i64 (invS t.C c)) ∧ Beside w1 w2 t ∧ Went2 w0 w2 y T U j t := by
  have hT := h.tw j hj t ht
  refine (invoice_any hT.p h.stp hk ha hm).mono ?_
  rintro e w1 ⟨rfl, ho⟩
  by_cases hz : invS t.C c = 0
  · have hn := ho.2 hz
    refine ⟨rfl, VwNext.beside hn, (rinvoice_any (VwNext.rv hn hT) hT.p.good hm).mono ?_⟩
    rintro e w2 ⟨rfl, hr⟩
    exact ⟨rfl, RvNext.beside (hr.2 hz), h.both hj ht hn (hr.2 hz)⟩
  · have hn := ho.1 hz
    refine ⟨rfl, Beside.below hn, (rinvoice_any (hT.r.below hn) hT.p.good hm).mono ?_⟩
    rintro e w2 ⟨rfl, hr⟩
    exact ⟨rfl, Beside.below (hr.1 hz), h.went ht (hn.trans ((hr.1 hz).mono hn.size))⟩
theorem two_all {w0 W : World} {y : Nat} {T : Nat → Option Tw} {U : Nat → Prop} (h : PlayIs w0 W y T U) {j : Nat} (hj : j < 3) {t : Tw} (ht : T j = some t) {x : Al} (hk : x.inv.size ≤ maxLen) :
    Calls Tryz.prog 19 #[ptr t.pb, .agg #[.string x.pay, .string x.inv, .int .i64 x.day, .int .i64 x.amt]] W fun e w1 => e = .returned (.int .i64 (allS t.C t.A x)) ∧ Beside W w1 t ∧ Calls Tryz.prog 20 #[.pointer (some ⟨t.rb, 0, none⟩), .agg #[.string x.pay, .string x.inv, .int .i64 x.day, .int .i64 x.amt]] w1 fun e w2 => e = .returned (.int .i64 (allS t.C t.A x)) ∧ Beside w1 w2 t ∧ Went2 w0 w2 y T U j t := by
  have hT := h.tw j hj t ht
  refine (allot_any hT.p h.stp hk).mono ?_
  rintro e w1 ⟨rfl, ho⟩
  by_cases hz : allS t.C t.A x = 0
  · have hn := ho.2 hz
    refine ⟨rfl, VwNext.beside hn, (rallot_any (VwNext.rv hn hT) hT.p.good).mono ?_⟩
    rintro e w2 ⟨rfl, hr⟩
    exact ⟨rfl, RvNext.beside (hr.2 hz), h.both hj ht hn (hr.2 hz)⟩
  · have hn := ho.1 hz
    refine ⟨rfl, Beside.below hn, (rallot_any (hT.r.below hn) hT.p.good).mono ?_⟩
    rintro e w2 ⟨rfl, hr⟩
    exact ⟨rfl, Beside.below (hr.1 hz), h.went ht (hn.trans ((hr.1 hz).mono hn.size))⟩
theorem two_adv {w0 W : World} {y : Nat} {T : Nat → Option Tw} {U : Nat → Prop} (h : PlayIs w0 W y T U) {j : Nat} (hj : j < 3) {t : Tw} (ht : T j = some t) (d : Int) :
    Calls Tryz.prog 21 #[ptr t.pb, .int .i64 d] W fun e w1 => e = .returned (.int .i64 (advS t.g d)) ∧ Beside W w1 t ∧ Calls Tryz.prog 22 #[.pointer (some ⟨t.rb, 0, none⟩), .int .i64 d] w1 fun e w2 => e = .returned (.int .i64 (advS t.g d)) ∧ Beside w1 w2 t ∧ Went2 w0 w2 y T U j t := by
  have hT := h.tw j hj t ht
  refine (advance_any hT.p h.stp d).mono ?_
  rintro e w1 ⟨rfl, ho⟩
  by_cases hz : advS t.g d = 0
  · have hn := ho.2 hz
    refine ⟨rfl, VwNext.beside hn, (radvance_any (VwNext.rv hn hT) hT.p.good.g d).mono ?_⟩
    rintro e w2 ⟨rfl, hr⟩
    exact ⟨rfl, RvNext.beside (hr.2 hz), h.both hj ht hn (hr.2 hz)⟩
  · have hn : Below W.heap.size W w1 := by rw [ho.1 hz]; exact Below.refl _ _
    refine ⟨rfl, Beside.below hn, (radvance_any (hT.r.below hn) hT.p.good.g d).mono ?_⟩
    rintro e w2 ⟨rfl, hr⟩
    exact ⟨rfl, Beside.below (by rw [hr.1 hz]; exact Below.refl _ _), h.went ht (by rw [hr.1 hz]; exact hn)⟩
attribute [local go_sem ↓] ld37_is
set_option maxRecDepth 100000 in
set_option maxHeartbeats 16000000 in
theorem step3 {w0 w : World} {y : Nat} {T : Nat → Option Tw} {U : Nat → Prop} (h : PlayIs w0 w y T U) {o : OpV} (ok : OpOk o) {j : Nat} (hj : j < 3) (hv : o.view = (j : Int)) {t : Tw} (ht : T j = some t) (hk : o.kind = 3) :
    Calls Tryz.prog 9 #[.pointer (some ⟨y, 0, none⟩), .agg o.arr] w fun e w' => e = .returned (.bool true) ∧ ∃ T' U', PlayIs w0 w' y T' U' := by
  obtain ⟨bx, hbx⟩ : ∃ bx, bx = w.heap.size := ⟨_, rfl⟩
  obtain ⟨X, hX⟩ : ∃ X, X = w.alloc (.cells o.arr 62) := ⟨_, rfl⟩
  have hbX : Below w.heap.size w X := by rw [hX]; exact bal (Below.refl _ _) _
  have hXb : X.heap[bx]? = some (.cells o.arr 62 (0, 0)) := by rw [hX, hbx]; exact heap_new _ _
  have hbl : bx < X.heap.size := by rw [hX, hbx]; simp
  have x0 : X.cell? ⟨bx, 0, none⟩ = some (.int .i64 (j : Int)) := by rw [cell_at hXb, ← hv]; rfl
  have x1 : X.cell? ⟨bx, 1, none⟩ = some (.int .i64 o.kind) := by rw [cell_at hXb]; rfl
  have x2 : X.cell? ⟨bx, 2, none⟩ = some (.int .i64 o.day) := by rw [cell_at hXb]; rfl
  have x12 : X.cell? ⟨bx, 12, none⟩ = some (.string o.acct) := by rw [cell_at hXb]; rfl
  have hPX := h.below hbX
  have yP : X.cell? ⟨y, j, none⟩ = some (.pointer (some ⟨t.pb, 0, none⟩)) := by rw [hPX.p j hj, ht]; rfl
  have yD : X.cell? ⟨y, 3 + j, none⟩ = some (.pointer (some ⟨t.rb, 0, none⟩)) := by rw [hPX.d j hj, ht]; rfl
  have hI0 : (0 : Int) ≤ (j : Int) := by omega
  have hI3 : (j : Int) < 3 := by omega
  have HX : Hid (X = w.alloc (.cells o.arr 62)) := hX
  unfold OpV.arr at HX ⊢
  have HBX := hide hbx; have HP := hide hPX; have HG := hide (h.tw j hj t ht).p.good
  have hjy : y ≠ bx := fun e => by have := h.kb.lt; omega
  have hI2 : ¬ (j : Int) > 2 := by omega
  have hI2' : ¬ (2 : Int) < (j : Int) := by omega
  have hIn : ¬ (j : Int) < 0 := by omega
  have hbt : ¬ t.fp bx := fun e => by have := (h.tw j hj t ht).lt e; omega
  have dN := hide num_any
  have hld : ∀ W, W.heap[bx]? = X.heap[bx]? → (ld37 (.pointer (some ⟨bx, 3, none⟩))).run Tryz.prog W = .ok (.agg #[.string o.c.key, .string o.c.acc, .int .i64 o.c.day, .int .i64 o.c.due, .int .i64 o.c.amt]) W := fun W hW => run_ld37 (fun i v hv => by
    rw [cell_at (hW.trans hXb)]
    unfold OpV.arr
    unfold Cl.vals at hv
    have hi : i < 5 := (List.getElem?_eq_some_iff.1 hv).1
    have : i = 0 ∨ i = 1 ∨ i = 2 ∨ i = 3 ∨ i = 4 := by omega
    rcases this with rfl | rfl | rfl | rfl | rfl <;> simpa using hv)
  have HD : Hid (∀ W, Below X.heap.size X W → Calls Tryz.prog 17 #[ptr t.pb, .agg #[.string o.c.key, .string o.c.acc, .int .i64 o.c.day, .int .i64 o.c.due, .int .i64 o.c.amt]] W fun e w1 => e = .returned (.int .i64 (invS t.C o.c)) ∧ Beside W w1 t ∧ Calls Tryz.prog 18 #[.pointer (some ⟨t.rb, 0, none⟩), .agg #[.string o.c.key, .string o.c.acc, .int .i64 o.c.day, .int .i64 o.c.due, .int .i64 o.c.amt]] w1 fun e w2 => e = .returned (.int .i64 (invS t.C o.c)) ∧ Beside w1 w2 t ∧ Went2 w0 w2 y T U j t) := fun W hW => two_inv ((unhide HP).below hW) hj ht (c := o.c) ok.k ok.a ok.m
  obtain ⟨r, hr⟩ : ∃ r, r = invS t.C o.c := ⟨_, rfl⟩
  rw [← hr] at HD
  rw [hk] at x1
  have HLD := hide hld
  have HBT := hide hbt
  clear h hXb hX hbx hbX hPX ok hk ht hv hr hld x2 x12 hbt
  unfold ptr at HD
  go_enter Tryz.func9, Tryz.ntmps9
  go_upto_region 1 with fail
  rw [← unhide HX, ← unhide HBX]
  clear HX HBX
  go_wp2_with fail
  go_region
  go_wp2_with fail
  go_region
  go_wp2_with fail
  refine wp_region_last (n := 12) (S := fun W => (ld37 (.pointer (some ⟨bx, 3, none⟩))).run Tryz.prog W = .ok (.agg #[.string o.c.key, .string o.c.acc, .int .i64 o.c.day, .int .i64 o.c.due, .int .i64 o.c.amt]) W) (by kernel_rfl) (by first | (exact unhide HLD _ rfl)) (fun hHeld => ?_)
  refine tkW 0 ?_
  refine tkW 1 ?_
  refine tkN 2 ?_
  refine tkW 5 ?_
  refine tkW 6 ?_
  refine tkN 7 ?_
  refine wpAnyL_one (i := 3) (by kernel_rfl) rfl (fun KK hK => ?_)
  go_simp
  go_wp2_with (first | (go_at_call 17; refine (unhide HD _ (below_drewN (Below.refl _ X) 3)).mono ?_; rintro e w1 ⟨rfl, hbs, hc2⟩; have e1 := hbs.2 bx hbl (unhide HBT); have hs1 := unhide HLD w1 e1; have z1 : bx < w1.heap.size := Nat.lt_of_lt_of_le hbl hbs.1; have HE1 := hide e1; have HC2 := hide hc2; clear hc2 hbs e1))
  refine hK.out _ _ (by first | (exact hs1)) (fun hHeld => ?_)
  clear hK KK
  refine wpAnyL_one (i := 4) (by kernel_rfl) rfl (fun KK hK => ?_)
  go_simp
  go_wp2_with (first | (go_at_call 16; refine (unhide dN _ _).mono ?_; rintro e w2 ⟨rfl, hw⟩; rw [hw]; clear hw w2))
  refine hK.out _ _ (by first | (exact hs1)) (fun hHeld => ?_)
  clear hK KK
  refine wpAnyL_one (i := 8) (by kernel_rfl) rfl (fun KK hK => ?_)
  go_simp
  go_wp2_with (first | (go_at_call 18; refine (unhide HC2).mono ?_; rintro e w2 ⟨rfl, hbs, hgo⟩; have hs2 := unhide HLD w2 ((hbs.2 bx z1 (unhide HBT)).trans (unhide HE1)); have HGO := hide hgo; clear hgo hbs))
  refine hK.out _ _ (by first | (exact hs2)) (fun hHeld => ?_)
  clear hK KK
  refine wpAnyL_one (i := 9) (by kernel_rfl) rfl (fun KK hK => ?_)
  go_simp
  go_wp2_with (first | (go_at_call 16; refine (unhide dN _ _).mono ?_; rintro e w3 ⟨rfl, hw⟩; rw [hw]; clear hw w3))
  refine hK.out _ _ (by first | (exact hs2)) (fun hHeld => ?_)
  clear hK KK
  refine tkW 10 ?_
  refine tkW 11 ?_
  refine wpAnyL_done (by kernel_rfl) ?_
  go_wp2_with fail
  go_ret
  obtain ⟨t', _, _, hfin⟩ := unhide HGO
  exact ⟨rfl, _, _, hfin⟩
attribute [local go_sem ↓] ld51_is
set_option maxRecDepth 100000 in
set_option maxHeartbeats 16000000 in
theorem step4 {w0 w : World} {y : Nat} {T : Nat → Option Tw} {U : Nat → Prop} (h : PlayIs w0 w y T U) {o : OpV} (ok : OpOk o) {j : Nat} (hj : j < 3) (hv : o.view = (j : Int)) {t : Tw} (ht : T j = some t) (hk : o.kind = 4) :
    Calls Tryz.prog 9 #[.pointer (some ⟨y, 0, none⟩), .agg o.arr] w fun e w' => e = .returned (.bool true) ∧ ∃ T' U', PlayIs w0 w' y T' U' := by
  obtain ⟨bx, hbx⟩ : ∃ bx, bx = w.heap.size := ⟨_, rfl⟩
  obtain ⟨X, hX⟩ : ∃ X, X = w.alloc (.cells o.arr 62) := ⟨_, rfl⟩
  have hbX : Below w.heap.size w X := by rw [hX]; exact bal (Below.refl _ _) _
  have hXb : X.heap[bx]? = some (.cells o.arr 62 (0, 0)) := by rw [hX, hbx]; exact heap_new _ _
  have hbl : bx < X.heap.size := by rw [hX, hbx]; simp
  have x0 : X.cell? ⟨bx, 0, none⟩ = some (.int .i64 (j : Int)) := by rw [cell_at hXb, ← hv]; rfl
  have x1 : X.cell? ⟨bx, 1, none⟩ = some (.int .i64 o.kind) := by rw [cell_at hXb]; rfl
  have x2 : X.cell? ⟨bx, 2, none⟩ = some (.int .i64 o.day) := by rw [cell_at hXb]; rfl
  have x12 : X.cell? ⟨bx, 12, none⟩ = some (.string o.acct) := by rw [cell_at hXb]; rfl
  have hPX := h.below hbX
  have yP : X.cell? ⟨y, j, none⟩ = some (.pointer (some ⟨t.pb, 0, none⟩)) := by rw [hPX.p j hj, ht]; rfl
  have yD : X.cell? ⟨y, 3 + j, none⟩ = some (.pointer (some ⟨t.rb, 0, none⟩)) := by rw [hPX.d j hj, ht]; rfl
  have hI0 : (0 : Int) ≤ (j : Int) := by omega
  have hI3 : (j : Int) < 3 := by omega
  have HX : Hid (X = w.alloc (.cells o.arr 62)) := hX
  unfold OpV.arr at HX ⊢
  have HBX := hide hbx; have HP := hide hPX; have HG := hide (h.tw j hj t ht).p.good
  have hjy : y ≠ bx := fun e => by have := h.kb.lt; omega
  have hI2 : ¬ (j : Int) > 2 := by omega
  have hI2' : ¬ (2 : Int) < (j : Int) := by omega
  have hIn : ¬ (j : Int) < 0 := by omega
  have hbt : ¬ t.fp bx := fun e => by have := (h.tw j hj t ht).lt e; omega
  have dN := hide num_any
  have hld : ∀ W, W.heap[bx]? = X.heap[bx]? → (ld51 (.pointer (some ⟨bx, 8, none⟩))).run Tryz.prog W = .ok (.agg #[.string o.a.pay, .string o.a.inv, .int .i64 o.a.day, .int .i64 o.a.amt]) W := fun W hW => run_ld51 (fun i v hv => by
    rw [cell_at (hW.trans hXb)]
    unfold OpV.arr
    unfold Al.vals at hv
    have hi : i < 4 := (List.getElem?_eq_some_iff.1 hv).1
    have : i = 0 ∨ i = 1 ∨ i = 2 ∨ i = 3 := by omega
    rcases this with rfl | rfl | rfl | rfl <;> simpa using hv)
  have HD : Hid (∀ W, Below X.heap.size X W → Calls Tryz.prog 19 #[ptr t.pb, .agg #[.string o.a.pay, .string o.a.inv, .int .i64 o.a.day, .int .i64 o.a.amt]] W fun e w1 => e = .returned (.int .i64 (allS t.C t.A o.a)) ∧ Beside W w1 t ∧ Calls Tryz.prog 20 #[.pointer (some ⟨t.rb, 0, none⟩), .agg #[.string o.a.pay, .string o.a.inv, .int .i64 o.a.day, .int .i64 o.a.amt]] w1 fun e w2 => e = .returned (.int .i64 (allS t.C t.A o.a)) ∧ Beside w1 w2 t ∧ Went2 w0 w2 y T U j t) := fun W hW => two_all ((unhide HP).below hW) hj ht (x := o.a) ok.i
  obtain ⟨r, hr⟩ : ∃ r, r = allS t.C t.A o.a := ⟨_, rfl⟩
  rw [← hr] at HD
  rw [hk] at x1
  have HLD := hide hld
  have HBT := hide hbt
  clear h hXb hX hbx hbX hPX ok hk ht hv hr hld x2 x12 hbt
  unfold ptr at HD
  go_enter Tryz.func9, Tryz.ntmps9
  go_upto_region 1 with fail
  rw [← unhide HX, ← unhide HBX]
  clear HX HBX
  go_wp2_with fail
  go_region
  go_wp2_with fail
  go_region
  go_wp2_with fail
  refine wp_region_last (n := 12) (S := fun W => (ld51 (.pointer (some ⟨bx, 8, none⟩))).run Tryz.prog W = .ok (.agg #[.string o.a.pay, .string o.a.inv, .int .i64 o.a.day, .int .i64 o.a.amt]) W) (by kernel_rfl) (by first | (exact unhide HLD _ rfl)) (fun hHeld => ?_)
  refine tkW 0 ?_
  refine tkW 1 ?_
  refine tkN 2 ?_
  refine tkW 5 ?_
  refine tkW 6 ?_
  refine tkN 7 ?_
  refine wpAnyL_one (i := 3) (by kernel_rfl) rfl (fun KK hK => ?_)
  go_simp
  go_wp2_with (first | (go_at_call 19; refine (unhide HD _ (below_drewN (Below.refl _ X) 3)).mono ?_; rintro e w1 ⟨rfl, hbs, hc2⟩; have e1 := hbs.2 bx hbl (unhide HBT); have hs1 := unhide HLD w1 e1; have z1 : bx < w1.heap.size := Nat.lt_of_lt_of_le hbl hbs.1; have HE1 := hide e1; have HC2 := hide hc2; clear hc2 hbs e1))
  refine hK.out _ _ (by first | (exact hs1)) (fun hHeld => ?_)
  clear hK KK
  refine wpAnyL_one (i := 4) (by kernel_rfl) rfl (fun KK hK => ?_)
  go_simp
  go_wp2_with (first | (go_at_call 16; refine (unhide dN _ _).mono ?_; rintro e w2 ⟨rfl, hw⟩; rw [hw]; clear hw w2))
  refine hK.out _ _ (by first | (exact hs1)) (fun hHeld => ?_)
  clear hK KK
  refine wpAnyL_one (i := 8) (by kernel_rfl) rfl (fun KK hK => ?_)
  go_simp
  go_wp2_with (first | (go_at_call 20; refine (unhide HC2).mono ?_; rintro e w2 ⟨rfl, hbs, hgo⟩; have hs2 := unhide HLD w2 ((hbs.2 bx z1 (unhide HBT)).trans (unhide HE1)); have HGO := hide hgo; clear hgo hbs))
  refine hK.out _ _ (by first | (exact hs2)) (fun hHeld => ?_)
  clear hK KK
  refine wpAnyL_one (i := 9) (by kernel_rfl) rfl (fun KK hK => ?_)
  go_simp
  go_wp2_with (first | (go_at_call 16; refine (unhide dN _ _).mono ?_; rintro e w3 ⟨rfl, hw⟩; rw [hw]; clear hw w3))
  refine hK.out _ _ (by first | (exact hs2)) (fun hHeld => ?_)
  clear hK KK
  refine tkW 10 ?_
  refine tkW 11 ?_
  refine wpAnyL_done (by kernel_rfl) ?_
  go_wp2_with fail
  go_ret
  obtain ⟨t', _, _, hfin⟩ := unhide HGO
  exact ⟨rfl, _, _, hfin⟩
set_option maxRecDepth 100000 in
set_option maxHeartbeats 16000000 in
theorem step5 {w0 w : World} {y : Nat} {T : Nat → Option Tw} {U : Nat → Prop} (h : PlayIs w0 w y T U) {o : OpV} (ok : OpOk o) {j : Nat} (hj : j < 3) (hv : o.view = (j : Int)) {t : Tw} (ht : T j = some t) (hk : o.kind = 5) :
    Calls Tryz.prog 9 #[.pointer (some ⟨y, 0, none⟩), .agg o.arr] w fun e w' => e = .returned (.bool true) ∧ ∃ T' U', PlayIs w0 w' y T' U' := by
  obtain ⟨bx, hbx⟩ : ∃ bx, bx = w.heap.size := ⟨_, rfl⟩
  obtain ⟨X, hX⟩ : ∃ X, X = w.alloc (.cells o.arr 62) := ⟨_, rfl⟩
  have hbX : Below w.heap.size w X := by rw [hX]; exact bal (Below.refl _ _) _
  have hXb : X.heap[bx]? = some (.cells o.arr 62 (0, 0)) := by rw [hX, hbx]; exact heap_new _ _
  have hbl : bx < X.heap.size := by rw [hX, hbx]; simp
  have x0 : X.cell? ⟨bx, 0, none⟩ = some (.int .i64 (j : Int)) := by rw [cell_at hXb, ← hv]; rfl
  have x1 : X.cell? ⟨bx, 1, none⟩ = some (.int .i64 o.kind) := by rw [cell_at hXb]; rfl
  have x2 : X.cell? ⟨bx, 2, none⟩ = some (.int .i64 o.day) := by rw [cell_at hXb]; rfl
  have x12 : X.cell? ⟨bx, 12, none⟩ = some (.string o.acct) := by rw [cell_at hXb]; rfl
  have hPX := h.below hbX
  have yP : X.cell? ⟨y, j, none⟩ = some (.pointer (some ⟨t.pb, 0, none⟩)) := by rw [hPX.p j hj, ht]; rfl
  have yD : X.cell? ⟨y, 3 + j, none⟩ = some (.pointer (some ⟨t.rb, 0, none⟩)) := by rw [hPX.d j hj, ht]; rfl
  have hI0 : (0 : Int) ≤ (j : Int) := by omega
  have hI3 : (j : Int) < 3 := by omega
  have HX : Hid (X = w.alloc (.cells o.arr 62)) := hX
  unfold OpV.arr at HX ⊢
  have HBX := hide hbx; have HP := hide hPX; have HG := hide (h.tw j hj t ht).p.good
  have hjy : y ≠ bx := fun e => by have := h.kb.lt; omega
  have hI2 : ¬ (j : Int) > 2 := by omega
  have hI2' : ¬ (2 : Int) < (j : Int) := by omega
  have hIn : ¬ (j : Int) < 0 := by omega
  have hbt : ¬ t.fp bx := fun e => by have := (h.tw j hj t ht).lt e; omega
  have dN := hide num_any
  have HD : Hid (∀ W, Below X.heap.size X W → Calls Tryz.prog 21 #[ptr t.pb, .int .i64 o.day] W fun e w1 => e = .returned (.int .i64 (advS t.g o.day)) ∧ Beside W w1 t ∧ Calls Tryz.prog 22 #[.pointer (some ⟨t.rb, 0, none⟩), .int .i64 o.day] w1 fun e w2 => e = .returned (.int .i64 (advS t.g o.day)) ∧ Beside w1 w2 t ∧ Went2 w0 w2 y T U j t) := fun W hW => two_adv ((unhide HP).below hW) hj ht o.day
  obtain ⟨r, hr⟩ : ∃ r, r = advS t.g o.day := ⟨_, rfl⟩
  rw [← hr] at HD
  rw [hk] at x1
  have HX2 : Hid (∀ W : World, W.heap[bx]? = X.heap[bx]? → W.cell? ⟨bx, 2, none⟩ = some (.int .i64 o.day)) := fun W e => (World.cell?_of_block e).trans x2
  have HBT := hide hbt
  clear h hXb hX hbx hbX hPX ok hk ht hv hr x12 hbt
  unfold ptr at HD
  go_enter Tryz.func9, Tryz.ntmps9
  go_upto_region 1 with fail
  rw [← unhide HX, ← unhide HBX]
  clear HX HBX
  go_wp2_with fail
  go_region
  go_wp2_with fail
  go_region
  go_wp2_with fail
  refine wp_region_last (n := 21) (S := fun W => W.cell? ⟨bx, 2, none⟩ = some (.int .i64 o.day)) (by kernel_rfl) (by first | (exact x2)) (fun hHeld => ?_)
  refine tkW 0 ?_
  refine tkW 1 ?_
  refine tkN 2 ?_
  refine tkW 5 ?_
  refine tkW 6 ?_
  refine tkN 7 ?_
  refine wpAnyL_one (i := 3) (by kernel_rfl) rfl (fun KK hK => ?_)
  go_simp
  go_wp2_with (first | (go_at_call 21; refine (unhide HD _ (below_drewN (Below.refl _ X) 3)).mono ?_; rintro e w1 ⟨rfl, hbs, hc2⟩; have e1 := hbs.2 bx hbl (unhide HBT); have hs1 := unhide HX2 w1 e1; have z1 : bx < w1.heap.size := Nat.lt_of_lt_of_le hbl hbs.1; have HE1 := hide e1; have HC2 := hide hc2; clear hc2 hbs e1))
  refine hK.out _ _ (by first | (exact hs1)) (fun hHeld => ?_)
  clear hK KK
  refine wpAnyL_one (i := 4) (by kernel_rfl) rfl (fun KK hK => ?_)
  go_simp
  go_wp2_with (first | (go_at_call 16; refine (unhide dN _ _).mono ?_; rintro e w2 ⟨rfl, hw⟩; rw [hw]; clear hw w2))
  refine hK.out _ _ (by first | (exact hs1)) (fun hHeld => ?_)
  clear hK KK
  refine wpAnyL_one (i := 8) (by kernel_rfl) rfl (fun KK hK => ?_)
  go_simp
  go_wp2_with (first | (go_at_call 22; refine (unhide HC2).mono ?_; rintro e w2 ⟨rfl, hbs, hgo⟩; have hs2 := unhide HX2 w2 ((hbs.2 bx z1 (unhide HBT)).trans (unhide HE1)); have HGO := hide hgo; clear hgo hbs))
  refine hK.out _ _ (by first | (exact hs2)) (fun hHeld => ?_)
  clear hK KK
  refine wpAnyL_one (i := 9) (by kernel_rfl) rfl (fun KK hK => ?_)
  go_simp
  go_wp2_with (first | (go_at_call 16; refine (unhide dN _ _).mono ?_; rintro e w3 ⟨rfl, hw⟩; rw [hw]; clear hw w3))
  refine hK.out _ _ (by first | (exact hs2)) (fun hHeld => ?_)
  clear hK KK
  obtain ⟨t', ep, er, hfin⟩ := unhide HGO
  have hT' := hfin.tw j hj t' (updT_same _ _ _)
  obtain ⟨pc, cc, pr, cr, _, _, r2, _, _, _, _⟩ := Rv.lists hT'.r
  have hao := hide (asOf_vw hT'.p)
  rw [er] at r2
  rw [ep] at hao
  obtain ⟨D, hD⟩ : ∃ D, D = 1 + t'.g := ⟨_, rfl⟩
  rw [← hD] at r2 hao
  unfold ptr at hao
  have HFIN := hide hfin
  clear hfin hT' ep er hD
  refine tkW 10 ?_
  refine tkW 11 ?_
  refine wpAnyL_mono (S' := fun W => W.cell? ⟨bx, 2, none⟩ = some (.int .i64 o.day) ∧ W.cell? ⟨t.rb, 2, none⟩ = some (.int .i64 D)) (fun W h => h.1) _ _ _ _ ?_
  have hHeld2 : (fun W : World => W.cell? ⟨bx, 2, none⟩ = some (.int .i64 o.day) ∧ W.cell? ⟨t.rb, 2, none⟩ = some (.int .i64 D)) w2 := ⟨hs2, r2⟩
  refine tkW 12 ?_
  refine tkW 14 ?_
  refine tkW 15 ?_
  refine tkW 16 ?_
  refine tkN 17 ?_
  refine wpAnyL_one (i := 13) (by kernel_rfl) rfl (fun KK hK => ?_)
  go_simp
  go_wp2_with (first | (go_at_call 23; refine (unhide hao).mono ?_; rintro e w3 ⟨rfl, hw⟩; rw [hw]; clear hw w3))
  refine hK.out _ _ (by first | (exact ⟨hs2, r2⟩)) (fun hHeld => ?_)
  clear hK KK
  refine tkW 18 ?_
  refine tkW 19 ?_
  refine tkW 20 ?_
  refine wpAnyL_done (by kernel_rfl) ?_
  go_wp2_with fail
  go_ret
  exact ⟨rfl, _, _, unhide HFIN⟩
set_option maxRecDepth 100000 in
set_option maxHeartbeats 16000000 in
theorem step6 {w0 w : World} {y : Nat} {T : Nat → Option Tw} {U : Nat → Prop} (h : PlayIs w0 w y T U) {o : OpV} (ok : OpOk o) {j : Nat} (hj : j < 3) (hv : o.view = (j : Int)) {t : Tw} (ht : T j = some t) (hk : o.kind = 6) :
    Calls Tryz.prog 9 #[.pointer (some ⟨y, 0, none⟩), .agg o.arr] w fun e w' => e = .returned (.bool true) ∧ ∃ T' U', PlayIs w0 w' y T' U' := by
  obtain ⟨bx, hbx⟩ : ∃ bx, bx = w.heap.size := ⟨_, rfl⟩
  obtain ⟨X, hX⟩ : ∃ X, X = w.alloc (.cells o.arr 62) := ⟨_, rfl⟩
  have hbX : Below w.heap.size w X := by rw [hX]; exact bal (Below.refl _ _) _
  have hXb : X.heap[bx]? = some (.cells o.arr 62 (0, 0)) := by rw [hX, hbx]; exact heap_new _ _
  have hbl : bx < X.heap.size := by rw [hX, hbx]; simp
  have x0 : X.cell? ⟨bx, 0, none⟩ = some (.int .i64 (j : Int)) := by rw [cell_at hXb, ← hv]; rfl
  have x1 : X.cell? ⟨bx, 1, none⟩ = some (.int .i64 o.kind) := by rw [cell_at hXb]; rfl
  have x2 : X.cell? ⟨bx, 2, none⟩ = some (.int .i64 o.day) := by rw [cell_at hXb]; rfl
  have x12 : X.cell? ⟨bx, 12, none⟩ = some (.string o.acct) := by rw [cell_at hXb]; rfl
  have hPX := h.below hbX
  have yP : X.cell? ⟨y, j, none⟩ = some (.pointer (some ⟨t.pb, 0, none⟩)) := by rw [hPX.p j hj, ht]; rfl
  have yD : X.cell? ⟨y, 3 + j, none⟩ = some (.pointer (some ⟨t.rb, 0, none⟩)) := by rw [hPX.d j hj, ht]; rfl
  have hI0 : (0 : Int) ≤ (j : Int) := by omega
  have hI3 : (j : Int) < 3 := by omega
  have HX : Hid (X = w.alloc (.cells o.arr 62)) := hX
  unfold OpV.arr at HX ⊢
  have HBX := hide hbx; have HP := hide hPX; have HG := hide (h.tw j hj t ht).p.good
  have hjy : y ≠ bx := fun e => by have := h.kb.lt; omega
  have hI2 : ¬ (j : Int) > 2 := by omega
  have hI2' : ¬ (2 : Int) < (j : Int) := by omega
  have hIn : ¬ (j : Int) < 0 := by omega
  have hbt : ¬ t.fp bx := fun e => by have := (h.tw j hj t ht).lt e; omega
  have dN := hide num_any
  obtain ⟨wz, hz⟩ : ∃ wz, wz = X.drew.drew := ⟨_, rfl⟩
  have bz : Below X.heap.size X wz := by rw [hz]; exact below_drewN (Below.refl _ X) 2
  have bP : ∀ P : Bel wz, Below X.heap.size X P.W := fun P => bz.trans (P.h.mono bz.size)
  obtain ⟨pc, cc, pr, cr, _, _, r2, _, _, _, _⟩ := Rv.lists ((unhide HP).tw j hj t ht).r
  have hrl : t.rb < X.heap.size := World.block_lt_of_cell? X _ r2
  obtain ⟨D, hD⟩ : ∃ D, D = 1 + t.g := ⟨_, rfl⟩
  obtain ⟨a0, a1, a2, a3, a4, hva⟩ : ∃ a0 a1 a2 a3 a4 : Int, .agg #[.int .i64 a0, .int .i64 a1, .int .i64 a2, .int .i64 a3, .int .i64 a4] = ag5 (ageS t.C t.A o.acct.data.toList (1 + t.g)) := ⟨_, _, _, _, _, rfl⟩
  have q12 : ∀ P : Bel wz, P.W.cell? ⟨bx, 12, none⟩ = some (.string o.acct) := fun P => keep1 (bP P) hbl x12
  have q2 : ∀ P : Bel wz, P.W.cell? ⟨bx, 2, none⟩ = some (.int .i64 o.day) := fun P => keep1 (bP P) hbl x2
  have qr : ∀ P : Bel wz, P.W.cell? ⟨t.rb, 2, none⟩ = some (.int .i64 D) := fun P => by rw [hD]; exact keep1 (bP P) hrl r2
  have hst := arr39; have heg := eg39; have heq := eq39_same
  have HAO : Hid (∀ P : Bel wz, Calls Tryz.prog 23 #[.pointer (some ⟨t.pb, 0, none⟩)] P.W fun e w'' => e = .returned (.int .i64 D) ∧ ∃ q : Bel wz, w'' = q.W) := fun P => by
    rw [hD]
    exact (asOf_vw ((unhide HP).below (bP P) |>.tw j hj t ht).p).mono (fun e w' ⟨h1, h2⟩ => ⟨h1, P, h2⟩)
  have HNW : Hid (∀ P : Bel wz, Calls Tryz.prog 24 #[.pointer (some ⟨t.pb, 0, none⟩), .string o.acct] P.W fun e w'' => e = .returned (.agg #[.int .i64 a0, .int .i64 a1, .int .i64 a2, .int .i64 a3, .int .i64 a4]) ∧ ∃ q : Bel wz, w'' = q.W) := fun P => by
    rw [hva]
    exact (now_vw ((unhide HP).below (bP P) |>.tw j hj t ht).p ok.n).mono (fun e w' ⟨h1, h2⟩ => ⟨h1, ⟨w', P.h.trans (h2.mono P.h.size)⟩, rfl⟩)
  have HRA : Hid (∀ P : Bel wz, Calls Tryz.prog 25 #[.pointer (some ⟨t.rb, 0, none⟩), .string o.acct, .int .i64 D] P.W fun e w'' => e = .returned (.agg #[.int .i64 a0, .int .i64 a1, .int .i64 a2, .int .i64 a3, .int .i64 a4]) ∧ ∃ q : Bel wz, w'' = q.W) := fun P => by
    have hg := (unhide HG).g
    have e1 : atS t.C t.A o.acct.data.toList (1 + t.g) = ageS t.C t.A o.acct.data.toList (1 + t.g) := funext fun i => by
      unfold atS
      rw [if_pos (by unfold dayB; rw [decide_eq_true (by omega), decide_eq_true (by omega)]; rfl)]
    rw [hva, ← e1, hD]
    exact (rat_any ((unhide HP).below (bP P) |>.tw j hj t ht).r (unhide HG) o.acct (1 + t.g)).mono (fun e w' ⟨h1, h2⟩ => ⟨h1, ⟨w', P.h.trans (h2.mono P.h.size)⟩, rfl⟩)
  have HD : Hid True := trivial
  rw [hk] at x1
  have HZ := hide hz
  have HBP := hide bP
  clear h hXb hX hbx hbX hPX ok hk ht hv hbt r2 hD hva bz bP hz x2 x12
  clear HD
  go_enter Tryz.func9, Tryz.ntmps9
  go_upto_region 1 with fail
  rw [← unhide HX, ← unhide HBX]
  clear HX HBX
  go_wp2_with fail
  go_region
  go_wp2_with fail
  go_region
  go_wp2_with fail
  rw [← unhide HZ]
  refine wp_region_quiet_below (by kernel_rfl) (by kernel_rfl) ?_
  repeat (go_big_quiet_step (first | (go_at_call 25; refine unhide HRA _) | (go_at_call 24; refine unhide HNW _) | (go_at_call 23; refine unhide HAO _)))
  refine wpQuiet_nil ?_
  rintro _ ⟨P, rfl⟩
  clear q12 q2 qr heq hst heg
  go_wp2_with fail
  go_ret
  exact ⟨rfl, T, U, (unhide HP).below (unhide HBP P)⟩
set_option maxRecDepth 100000 in
set_option maxHeartbeats 16000000 in
theorem step7 {w0 w : World} {y : Nat} {T : Nat → Option Tw} {U : Nat → Prop} (h : PlayIs w0 w y T U) {o : OpV} (ok : OpOk o) {j : Nat} (hj : j < 3) (hv : o.view = (j : Int)) {t : Tw} (ht : T j = some t) (hk : o.kind = 7) :
    Calls Tryz.prog 9 #[.pointer (some ⟨y, 0, none⟩), .agg o.arr] w fun e w' => e = .returned (.bool true) ∧ ∃ T' U', PlayIs w0 w' y T' U' := by
  obtain ⟨bx, hbx⟩ : ∃ bx, bx = w.heap.size := ⟨_, rfl⟩
  obtain ⟨X, hX⟩ : ∃ X, X = w.alloc (.cells o.arr 62) := ⟨_, rfl⟩
  have hbX : Below w.heap.size w X := by rw [hX]; exact bal (Below.refl _ _) _
  have hXb : X.heap[bx]? = some (.cells o.arr 62 (0, 0)) := by rw [hX, hbx]; exact heap_new _ _
  have hbl : bx < X.heap.size := by rw [hX, hbx]; simp
  have x0 : X.cell? ⟨bx, 0, none⟩ = some (.int .i64 (j : Int)) := by rw [cell_at hXb, ← hv]; rfl
  have x1 : X.cell? ⟨bx, 1, none⟩ = some (.int .i64 o.kind) := by rw [cell_at hXb]; rfl
  have x2 : X.cell? ⟨bx, 2, none⟩ = some (.int .i64 o.day) := by rw [cell_at hXb]; rfl
  have x12 : X.cell? ⟨bx, 12, none⟩ = some (.string o.acct) := by rw [cell_at hXb]; rfl
  have hPX := h.below hbX
  have yP : X.cell? ⟨y, j, none⟩ = some (.pointer (some ⟨t.pb, 0, none⟩)) := by rw [hPX.p j hj, ht]; rfl
  have yD : X.cell? ⟨y, 3 + j, none⟩ = some (.pointer (some ⟨t.rb, 0, none⟩)) := by rw [hPX.d j hj, ht]; rfl
  have hI0 : (0 : Int) ≤ (j : Int) := by omega
  have hI3 : (j : Int) < 3 := by omega
  have HX : Hid (X = w.alloc (.cells o.arr 62)) := hX
  unfold OpV.arr at HX ⊢
  have HBX := hide hbx; have HP := hide hPX; have HG := hide (h.tw j hj t ht).p.good
  have hjy : y ≠ bx := fun e => by have := h.kb.lt; omega
  have hI2 : ¬ (j : Int) > 2 := by omega
  have hI2' : ¬ (2 : Int) < (j : Int) := by omega
  have hIn : ¬ (j : Int) < 0 := by omega
  have hbt : ¬ t.fp bx := fun e => by have := (h.tw j hj t ht).lt e; omega
  have dN := hide num_any
  obtain ⟨wz, hz⟩ : ∃ wz, wz = X.drew.drew := ⟨_, rfl⟩
  have bz : Below X.heap.size X wz := by rw [hz]; exact below_drewN (Below.refl _ X) 2
  have bP : ∀ P : Bel wz, Below X.heap.size X P.W := fun P => bz.trans (P.h.mono bz.size)
  obtain ⟨pc, cc, pr, cr, _, _, r2, _, _, _, _⟩ := Rv.lists ((unhide HP).tw j hj t ht).r
  have hrl : t.rb < X.heap.size := World.block_lt_of_cell? X _ r2
  obtain ⟨D, hD⟩ : ∃ D, D = 1 + t.g := ⟨_, rfl⟩
  obtain ⟨a0, a1, a2, a3, a4, hva⟩ : ∃ a0 a1 a2 a3 a4 : Int, .agg #[.int .i64 a0, .int .i64 a1, .int .i64 a2, .int .i64 a3, .int .i64 a4] = ag5 (atS t.C t.A o.acct.data.toList o.day) := ⟨_, _, _, _, _, rfl⟩
  have q12 : ∀ P : Bel wz, P.W.cell? ⟨bx, 12, none⟩ = some (.string o.acct) := fun P => keep1 (bP P) hbl x12
  have q2 : ∀ P : Bel wz, P.W.cell? ⟨bx, 2, none⟩ = some (.int .i64 o.day) := fun P => keep1 (bP P) hbl x2
  have qr : ∀ P : Bel wz, P.W.cell? ⟨t.rb, 2, none⟩ = some (.int .i64 D) := fun P => by rw [hD]; exact keep1 (bP P) hrl r2
  have hst := arr39; have heg := eg39; have heq := eq39_same
  have HNW : Hid (∀ P : Bel wz, Calls Tryz.prog 26 #[.pointer (some ⟨t.pb, 0, none⟩), .string o.acct, .int .i64 o.day] P.W fun e w'' => e = .returned (.agg #[.int .i64 a0, .int .i64 a1, .int .i64 a2, .int .i64 a3, .int .i64 a4]) ∧ ∃ q : Bel wz, w'' = q.W) := fun P => by
    rw [hva]
    exact (at_vw ((unhide HP).below (bP P) |>.tw j hj t ht).p ((unhide HP).below (bP P)).stp ok.n o.day).mono (fun e w' ⟨h1, h2⟩ => ⟨h1, ⟨w', P.h.trans (h2.mono P.h.size)⟩, rfl⟩)
  have HRA : Hid (∀ P : Bel wz, Calls Tryz.prog 25 #[.pointer (some ⟨t.rb, 0, none⟩), .string o.acct, .int .i64 o.day] P.W fun e w'' => e = .returned (.agg #[.int .i64 a0, .int .i64 a1, .int .i64 a2, .int .i64 a3, .int .i64 a4]) ∧ ∃ q : Bel wz, w'' = q.W) := fun P => by
    rw [hva]
    exact (rat_any ((unhide HP).below (bP P) |>.tw j hj t ht).r (unhide HG) o.acct o.day).mono (fun e w' ⟨h1, h2⟩ => ⟨h1, ⟨w', P.h.trans (h2.mono P.h.size)⟩, rfl⟩)
  have HD : Hid True := trivial
  rw [hk] at x1
  have HZ := hide hz
  have HBP := hide bP
  clear h hXb hX hbx hbX hPX ok hk ht hv hbt r2 hD hva bz bP hz x2 x12
  clear HD
  go_enter Tryz.func9, Tryz.ntmps9
  go_upto_region 1 with fail
  rw [← unhide HX, ← unhide HBX]
  clear HX HBX
  go_wp2_with fail
  go_region
  go_wp2_with fail
  go_region
  go_wp2_with fail
  rw [← unhide HZ]
  refine wp_region_quiet_below (by kernel_rfl) (by kernel_rfl) ?_
  repeat (go_big_quiet_step (first | (go_at_call 25; refine unhide HRA _) | (go_at_call 26; refine unhide HNW _)))
  refine wpQuiet_nil ?_
  rintro _ ⟨P, rfl⟩
  clear q12 q2 qr heq hst heg
  go_wp2_with fail
  go_ret
  exact ⟨rfl, T, U, (unhide HP).below (unhide HBP P)⟩
end Go.Proofs.YtfclknlpdcanpaaGreatDoor.Kg
