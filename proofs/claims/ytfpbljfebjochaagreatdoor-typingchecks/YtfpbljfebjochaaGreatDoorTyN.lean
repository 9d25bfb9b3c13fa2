/- typing: faults 23. -/
import Derived.Test.YtfpbljfebjochaaGreatDoorRgs
import Derived.Deep.Cut
namespace Go.Proofs.YtfpbljfebjochaaGreatDoor
open Go Go.Shelf Go.ChangeShapes Go.WideShapes Go.ChangeAt Go.RowKit Go.Maps
set_option linter.unusedVariables false
/-- a query -/
structure Qy where
  nodes : List Nd
  wh : Int
  by' : List Int
  sh : List (Int × Int)
  ords : List (Int × Bool)
  lim : Int
/-- where a query's lists lie -/
structure Qa where
  pN : Option Addr
  cN : Nat
  pB : Option Addr
  cB : Nat
  pS : Option Addr
  cS : Nat
  pO : Option Addr
  cO : Nat
def qV (q : Qy) (a : Qa) : Value := .agg #[.slice a.pN q.nodes.length a.cN, .int .i64 q.wh, .slice a.pB q.by'.length a.cB, .slice a.pS q.sh.length a.cS, .slice a.pO q.ords.length a.cO, .int .i64 q.lim]
/-- a query lies in memory -/
structure QIn (W : World) (q : Qy) (a : Qa) : Prop where
  n : Lies kN W a.pN q.nodes
  b : Lies kI W a.pB q.by'
  s : Lies kG W a.pS q.sh
  o : Lies kO W a.pO q.ords
  nn : q.nodes.length ≤ 2600000000000
  nb : q.by'.length ≤ 17600000000000
  ns : q.sh.length ≤ 8800000000000
  no : q.ords.length ≤ 8800000000000
theorem QIn.below {W W' : World} {q : Qy} {a : Qa} (h : QIn W q a) (hb : Below W.heap.size W W') : QIn W' q a := ⟨h.n.below hb, h.b.below hb, h.s.below hb, h.o.below hb, h.nn, h.nb, h.ns, h.no⟩
/-- the seven points of a query, by its nodes' types -/
def ptsS (q : Qy) (T : List Int) : List Bool := [T.all (fun t => !(t == 0)), q.wh == -1 || tat T q.wh == 4, q.by'.all isF, decide (0 < q.sh.length), q.sh.all (fun x => shwS x T), q.ords.all (ordS (q.by'.length + q.sh.length)), decide (-1 ≤ q.lim)]

def bs128 (l : Array (Nat × Value)) : Sem Value := Instr.buildSlice 260 7 l
theorem bs128_is (l : Array (Nat × Value)) : Instr.buildSlice 260 7 l = bs128 l := rfl
theorem run_bs (b1 b2 b3 b4 b5 b6 b7 : Bool) (w : World) : (bs128 #[(0, flt b1), (1, flt b2), (2, flt b3), (3, flt b4), (4, flt b5), (5, flt b6), (6, flt b7)]).run Tryz.prog w = .ok (.slice (some ⟨w.heap.size, 0, none⟩) 7 7) (w.alloc (.cells #[flt b1, flt b2, flt b3, flt b4, flt b5, flt b6, flt b7] 81)) := by
  cases b1 <;> cases b2 <;> cases b3 <;> cases b4 <;> cases b5 <;> cases b6 <;> cases b7 <;> kernel_rfl
attribute [local go_sem ↓] bs128_is
theorem errs_lie (w : World) (b1 b2 b3 b4 b5 b6 b7 : Bool) : Lies kE (w.alloc (.cells #[flt b1, flt b2, flt b3, flt b4, flt b5, flt b6, flt b7] 81)) (some ⟨w.heap.size, 0, none⟩) [b1, b2, b3, b4, b5, b6, b7] := by
  refine ⟨(fun h => by cases h), fun k hk => ⟨w.heap.size, 0, rfl, by simp, fun j u hu => ?_⟩⟩
  rw [World.cell?_alloc_mark]
  have hj : j = 0 := by
    have := (List.getElem?_eq_some_iff.1 hu).1
    simpa [kE] using this
  subst hj
  simp only [kE, List.getElem?_cons_zero, Option.some.injEq, Nat.mul_one, Nat.add_zero, Nat.zero_add] at hu ⊢
  subst hu
  match k, hk with
  | 0, _ => rfl
  | 1, _ => rfl
  | 2, _ => rfl
  | 3, _ => rfl
  | 4, _ => rfl
  | 5, _ => rfl
  | 6, _ => rfl
set_option maxRecDepth 100000
set_option maxHeartbeats 4000000

theorem faults_no {W : World} {q : Qy} {a : Qa} (hq : QIn W q a) {pT : Option Addr} {nT cT : Nat} {T : List Int} (hT : Lies kI W pT T) (hn : T.length = nT) (hnT : nT ≤ 2600000000000) (hwh : q.wh = -1) : Calls Tryz.prog 63 #[qV q a, .slice pT nT cT] W fun e w' => ∃ v, e = .returned v ∧ JoinV W (ptsS q T) v w' := by
  obtain ⟨o1, ho1⟩ : ∃ o : Obj, o = .cells #[.slice a.pN q.nodes.length a.cN, .int .i64 q.wh, .slice a.pB q.by'.length a.cB, .slice a.pS q.sh.length a.cS, .slice a.pO q.ords.length a.cO, .int .i64 q.lim] 27 := ⟨_, rfl⟩
  obtain ⟨o2, ho2⟩ : ∃ o : Obj, o = .cells #[.slice pT nT cT] 23 := ⟨_, rfl⟩
  obtain ⟨o3, ho3⟩ : ∃ o : Obj, o = .cells #[.int .i64 ((q.by'.length : Int) + (q.sh.length : Int))] 3 := ⟨_, rfl⟩
  obtain ⟨W3, hW3⟩ : ∃ X, X = ((W.alloc o1).alloc o2).alloc o3 := ⟨_, rfl⟩
  have hsz : W3.heap.size = W.heap.size + 3 := by rw [hW3]; simp
  have hB3 : Below W.heap.size W W3 := by rw [hW3]; exact ((Below.a1 W o1).alloc (by simp) o2).alloc (by simp; omega) o3
  have hx1 : ∀ i, W3.cell? ⟨W.heap.size, i, none⟩ = (#[.slice a.pN q.nodes.length a.cN, .int .i64 q.wh, .slice a.pB q.by'.length a.cB, .slice a.pS q.sh.length a.cS, .slice a.pO q.ords.length a.cO, .int .i64 q.lim] : Array Value)[i]? := fun i => by rw [hW3, World.cell?_alloc_old _ _ _ (by simp; omega), World.cell?_alloc_old _ _ _ (by simp), ho1, World.cell?_alloc_mark]
  have hx2 : W3.cell? ⟨W.heap.size + 1, 0, none⟩ = some (.slice pT nT cT) := by rw [hW3, World.cell?_alloc_old _ _ _ (by simp), ho2, show W.heap.size + 1 = (W.alloc o1).heap.size by simp, World.cell?_alloc_mark]; rfl
  have hx3 : W3.cell? ⟨W.heap.size + 2, 0, none⟩ = some (.int .i64 ((q.by'.length : Int) + (q.sh.length : Int))) := by rw [hW3, ho3, show W.heap.size + 2 = ((W.alloc o1).alloc o2).heap.size by simp, World.cell?_alloc_mark]; rfl
  have up : ∀ X, Below W3.heap.size W3 X → Below W.heap.size W X := fun X h => hB3.trans (h.mono (by omega))
  have HS : Hid (∀ X, Below W3.heap.size W3 X → (fun X => X.cell? ⟨W.heap.size, 1, none⟩ = some (.int .i64 q.wh) ∧ X.cell? ⟨W.heap.size, 2, none⟩ = some (.slice a.pB q.by'.length a.cB) ∧ X.cell? ⟨W.heap.size, 3, none⟩ = some (.slice a.pS q.sh.length a.cS) ∧ X.cell? ⟨W.heap.size, 4, none⟩ = some (.slice a.pO q.ords.length a.cO) ∧ X.cell? ⟨W.heap.size, 5, none⟩ = some (.int .i64 q.lim) ∧ X.cell? ⟨W.heap.size + 1, 0, none⟩ = some (.slice pT nT cT)) X) := fun X h => ⟨(h.cell (p := ⟨W.heap.size, 1, none⟩) (by simp; omega)).trans (hx1 1), (h.cell (p := ⟨W.heap.size, 2, none⟩) (by simp; omega)).trans (hx1 2), (h.cell (p := ⟨W.heap.size, 3, none⟩) (by simp; omega)).trans (hx1 3), (h.cell (p := ⟨W.heap.size, 4, none⟩) (by simp; omega)).trans (hx1 4), (h.cell (p := ⟨W.heap.size, 5, none⟩) (by simp; omega)).trans (hx1 5), (h.cell (p := ⟨W.heap.size + 1, 0, none⟩) (by simp; omega)).trans hx2⟩
  have d1 : Hid (∀ X, Below W3.heap.size W3 X → Calls Tryz.prog 136 #[.slice pT nT cT, .func (.func 137) #[] #[]] X fun e w' => e = .returned (flt (T.all (fun t => !(t == 0)))) ∧ w' = X) := fun X h => each46 137 eg47 _ (fun x => isTyped_any x X) hn (hT.below (up X h)) (by omega)
  have d9 : Hid (∀ X, Below W3.heap.size W3 X → Calls Tryz.prog 139 #[.slice pT nT cT, .int .i64 q.wh] X fun e w' => e = .returned (.int .i64 (tat T q.wh)) ∧ w' = X) := fun X h => typeAt_any hn (hT.below (up X h)) q.wh
  have dm := hide must_any
  have d15 : Hid (∀ X, Below W3.heap.size W3 X → Calls Tryz.prog 136 #[.slice a.pB q.by'.length a.cB, .func (.func 140) #[] #[]] X fun e w' => e = .returned (flt (q.by'.all isF)) ∧ w' = X) := fun X h => each46 140 eg24 _ (fun x => isField_any x X) rfl (hq.b.below (up X h)) (by have := hq.nb; omega)
  have d24 : Hid (∀ X, Below W3.heap.size W3 X → Calls Tryz.prog 141 #[.slice a.pS q.sh.length a.cS, .func (.func 142) #[] #[.pointer (some ⟨W.heap.size + 1, 0, none⟩)]] X fun e w' => e = .returned (flt (q.sh.all (fun x => shwS x T))) ∧ Below X.heap.size X w') := fun X h => by
    have hlt : W.heap.size + 1 < X.heap.size := by have := h.size; omega
    refine each50 142 eg51 (fun x => shwS x T) _ (fun x Y hY => ?_) rfl (hq.s.below (up X h)) (by have := hq.ns; omega)
    have hY' : Below W3.heap.size W3 Y := h.trans (hY.mono h.size)
    exact show51 hn (hT.below (up Y hY')) (Nat.lt_of_lt_of_le hlt hY.size) ((hY'.cell (p := ⟨W.heap.size + 1, 0, none⟩) (by simp; omega)).trans hx2) x
  have d28 : Hid (∀ X, Below W3.heap.size W3 X → Calls Tryz.prog 144 #[.slice a.pO q.ords.length a.cO, .func (.func 145) #[] #[.pointer (some ⟨W.heap.size + 1 + 1, 0, none⟩)]] X fun e w' => e = .returned (flt (q.ords.all (ordS (q.by'.length + q.sh.length)))) ∧ Below X.heap.size X w') := fun X h => by
    have hlt : W.heap.size + 2 < X.heap.size := by have := h.size; omega
    refine each53 145 eg54 (ordS (q.by'.length + q.sh.length)) _ (fun x Y hY => ?_) rfl (hq.o.below (up X h)) (by have := hq.no; omega)
    have hY' : Below W3.heap.size W3 Y := h.trans (hY.mono h.size)
    exact ord54 (Nat.lt_of_lt_of_le hlt hY.size) ((hY'.cell (p := ⟨W.heap.size + 2, 0, none⟩) (by simp; omega)).trans hx3) x
  have HUP := hide up
  have hb1 := hq.nb
  have hb2 := hq.ns
  obtain ⟨nN, hnN⟩ : ∃ n, n = q.nodes.length := ⟨_, rfl⟩
  obtain ⟨nB, hnB⟩ : ∃ n, n = q.by'.length := ⟨_, rfl⟩
  obtain ⟨nS, hnS⟩ : ∃ n, n = q.sh.length := ⟨_, rfl⟩
  obtain ⟨nO, hnO⟩ : ∃ n, n = q.ords.length := ⟨_, rfl⟩
  have HP : Hid (ptsS q T = [T.all (fun t => !(t == 0)), q.wh == -1 || tat T q.wh == 4, q.by'.all isF, decide (0 < nS), q.sh.all (fun x => shwS x T), q.ords.all (ordS (nB + nS)), decide (-1 ≤ q.lim)]) := by rw [hnS, hnB]; rfl
  unfold qV
  rw [← hnN, ← hnB, ← hnS, ← hnO] at ho1 ⊢
  rw [← hnB, ← hnS] at ho3
  simp only [← hnB, ← hnS, ← hnO] at HS d15 d24 d28 hb1 hb2
  clear hx1 hx2 hx3 hq hT hn hnN hnB hnS hnO up
  obtain ⟨nodes, wh, by', sh, ords, lim⟩ := q
  obtain ⟨pN, cN, pB, cB, pS, cS, pO, cO⟩ := a
  simp only at *
  obtain ⟨y1, hy1⟩ : ∃ y, y = T.all (fun t => !(t == 0)) := ⟨_, rfl⟩
  obtain ⟨tw, htw⟩ : ∃ y, y = tat T wh := ⟨_, rfl⟩
  obtain ⟨y3, hy3⟩ : ∃ y, y = by'.all isF := ⟨_, rfl⟩
  obtain ⟨y5, hy5⟩ : ∃ y, y = sh.all (fun x => shwS x T) := ⟨_, rfl⟩
  obtain ⟨y6, hy6⟩ : ∃ y, y = ords.all (ordS (nB + nS)) := ⟨_, rfl⟩
  rw [← hy1] at d1 HP
  rw [← htw] at d9 HP
  rw [← hy3] at d15 HP
  rw [← hy5] at d24 HP
  rw [← hy6] at d28 HP
  clear hy1 htw hy3 hy5 hy6
  have hwr : IntKind.i64.wrap ((nB : Int) + (nS : Int)) = (nB : Int) + (nS : Int) := by rw [IntKind.wrap_i64]; omega
  have HB3 := hide hB3; have HSZ := hide hsz
  clear hB3 hsz
  have hw1 : (wh == -1) = true := beqT hwh
  have HWT : Hid ((wh == -1) = true) := hw1
  clear hwh d9
  go_enter Tryz.func63, Tryz.ntmps63
  go_upto_region 2 with fail
  rw [← ho1, ← ho2, ← ho3, ← hW3]
  clear ho1 ho2 ho3 hW3 o1 o2 o3
  have BB : Hid (Below W3.heap.size W3 W3.drew) := (Below.refl _ _).drew
  refine wp_region_last (n := 36) (S := (fun X => X.cell? ⟨W.heap.size, 1, none⟩ = some (.int .i64 wh) ∧ X.cell? ⟨W.heap.size, 2, none⟩ = some (.slice pB nB cB) ∧ X.cell? ⟨W.heap.size, 3, none⟩ = some (.slice pS nS cS) ∧ X.cell? ⟨W.heap.size, 4, none⟩ = some (.slice pO nO cO) ∧ X.cell? ⟨W.heap.size, 5, none⟩ = some (.int .i64 lim) ∧ X.cell? ⟨W.heap.size + 1, 0, none⟩ = some (.slice pT nT cT))) (by kernel_rfl) (unhide HS _ (unhide BB)) (fun hHeld => ?_)
  refine tkN 0 ?_; refine tkW 2 ?_; refine tkN 3 ?_; refine tkW 4 ?_; refine tkW 13 ?_; refine tkN 14 ?_; refine tkW 16 ?_; refine tkN 17 ?_; refine tkW 18 ?_; refine tkW 19 ?_; refine tkW 21 ?_; refine tkN 22 ?_; refine tkW 23 ?_; refine tkW 25 ?_; refine tkN 26 ?_; refine tkW 27 ?_; refine tkW 29 ?_; refine tkN 30 ?_; refine tkW 31 ?_
  refine wpAnyL_one (i := 1) (by kernel_rfl) rfl (fun KK hK => ?_)
  go_simp
  go_wp2_with (first | (go_at_call 136; refine (unhide d1 _ (unhide BB)).mono ?_; rintro e x1 ⟨rfl, hw⟩))
  (try rw [hw])
  clear hw x1
  refine hK.out _ _ (unhide HS _ (unhide BB)) (fun hHeld => ?_)
  clear hK KK
  refine tkW 5 ?_; refine tkX 6 ?_; refine tkX 7 ?_; refine tkX 8 ?_; refine tkX 9 ?_; refine tkX 10 ?_; refine tkW 11 ?_
  refine wpAnyL_one (i := 12) (by kernel_rfl) rfl (fun KK hK => ?_)
  go_simp
  go_wp2_with (first | (go_at_call 138; refine (unhide dm _ _).mono ?_; rintro e x3 ⟨rfl, hw⟩))
  (try rw [hw])
  clear hw x3
  refine hK.out _ _ (unhide HS _ (unhide BB)) (fun hHeld => ?_)
  clear hK KK
  refine wpAnyL_one (i := 15) (by kernel_rfl) rfl (fun KK hK => ?_)
  go_simp
  go_wp2_with (first | (go_at_call 136; refine (unhide d15 _ (unhide BB)).mono ?_; rintro e x4 ⟨rfl, hw⟩))
  (try rw [hw])
  clear hw x4
  refine hK.out _ _ (unhide HS _ (unhide BB)) (fun hHeld => ?_)
  clear hK KK
  refine wpAnyL_one (i := 20) (by kernel_rfl) rfl (fun KK hK => ?_)
  go_simp
  go_wp2_with (first | (go_at_call 138; refine (unhide dm _ _).mono ?_; rintro e x5 ⟨rfl, hw⟩))
  (try rw [hw])
  clear hw x5
  refine hK.out _ _ (unhide HS _ (unhide BB)) (fun hHeld => ?_)
  clear hK KK
  refine wpAnyL_one (i := 24) (by kernel_rfl) rfl (fun KK hK => ?_)
  go_simp
  go_wp2_with (first | (go_at_call 141; refine (unhide d24 _ (unhide BB)).mono ?_; rintro e x6 ⟨rfl, hw⟩))
  have BB : Hid (Below W3.heap.size W3 x6) := (unhide BB).trans (hw.mono (unhide BB).size)
  clear hw
  refine hK.out _ _ (unhide HS _ (unhide BB)) (fun hHeld => ?_)
  clear hK KK
  refine wpAnyL_one (i := 28) (by kernel_rfl) rfl (fun KK hK => ?_)
  go_simp
  go_wp2_with (first | (go_at_call 144; refine (unhide d28 _ (unhide BB)).mono ?_; rintro e x7 ⟨rfl, hw⟩))
  have BB : Hid (Below W3.heap.size W3 x7) := (unhide BB).trans (hw.mono (unhide BB).size)
  clear hw
  refine hK.out _ _ (unhide HS _ (unhide BB)) (fun hHeld => ?_)
  clear hK KK
  refine wpAnyL_one (i := 32) (by kernel_rfl) rfl (fun KK hK => ?_)
  go_simp
  go_wp2_with (first | (go_at_call 138; refine (unhide dm _ _).mono ?_; rintro e x8 ⟨rfl, hw⟩))
  (try rw [hw])
  clear hw x8
  refine hK.out _ _ (unhide HS _ (unhide BB)) (fun hHeld => ?_)
  clear hK KK
  refine wpAnyL_one (i := 33) (by kernel_rfl) rfl (fun KK hK => ?_)
  have hbs := run_bs y1 (wh == -1 || tw == 4) y3 (decide (0 < nS)) y5 y6 (decide (-1 ≤ lim))
  rw [hw1, Bool.true_or] at hbs
  go_wp2_with fail
  have BB : Hid (Below W3.heap.size W3 (x7.alloc (.cells #[flt y1, flt true, flt y3, flt (decide (0 < nS)), flt y5, flt y6, flt (decide (-1 ≤ lim))] 81))) := (unhide BB).alloc (unhide BB).size _
  have dJ := hide (join_any (W := x7.alloc (.cells #[flt y1, flt true, flt y3, flt (decide (0 < nS)), flt y5, flt y6, flt (decide (-1 ≤ lim))] 81)) (p := some ⟨x7.heap.size, 0, none⟩) (n := 7) (c := 7) (B := [y1, true, y3, decide (0 < nS), y5, y6, decide (-1 ≤ lim)]) rfl (errs_lie _ _ _ _ _ _ _ _) (by decide))
  refine hK.out _ _ (unhide HS _ (unhide BB)) (fun hHeld => ?_)
  clear hK KK hbs
  refine wpAnyL_one (i := 34) (by kernel_rfl) rfl (fun KK hK => ?_)
  go_simp
  go_wp2_with (first | (go_at_call 135; refine (unhide dJ).mono ?_; rintro e x9 ⟨v, rfl, hJ⟩))
  have BB9 : Hid (Below W3.heap.size W3 x9) := (unhide BB).trans (hJ.1.mono (unhide BB).size)
  have HJ9 := hide (hJ.up (unhide HUP _ (unhide BB)))
  clear hJ
  refine hK.out _ _ (unhide HS _ (unhide BB9)) (fun hHeld => ?_)
  clear hK KK
  refine tkW 35 ?_
  refine wpAnyL_done (by kernel_rfl) ?_
  clear hHeld
  go_wp2_with fail
  go_ret
  refine ⟨_, rfl, ?_⟩
  rw [unhide HP, unhide HWT, Bool.true_or]
  exact unhide HJ9

theorem faults_wh {W : World} {q : Qy} {a : Qa} (hq : QIn W q a) {pT : Option Addr} {nT cT : Nat} {T : List Int} (hT : Lies kI W pT T) (hn : T.length = nT) (hnT : nT ≤ 2600000000000) (hwh : ¬ q.wh = -1) : Calls Tryz.prog 63 #[qV q a, .slice pT nT cT] W fun e w' => ∃ v, e = .returned v ∧ JoinV W (ptsS q T) v w' := by
  obtain ⟨o1, ho1⟩ : ∃ o : Obj, o = .cells #[.slice a.pN q.nodes.length a.cN, .int .i64 q.wh, .slice a.pB q.by'.length a.cB, .slice a.pS q.sh.length a.cS, .slice a.pO q.ords.length a.cO, .int .i64 q.lim] 27 := ⟨_, rfl⟩
  obtain ⟨o2, ho2⟩ : ∃ o : Obj, o = .cells #[.slice pT nT cT] 23 := ⟨_, rfl⟩
  obtain ⟨o3, ho3⟩ : ∃ o : Obj, o = .cells #[.int .i64 ((q.by'.length : Int) + (q.sh.length : Int))] 3 := ⟨_, rfl⟩
  obtain ⟨W3, hW3⟩ : ∃ X, X = ((W.alloc o1).alloc o2).alloc o3 := ⟨_, rfl⟩
  have hsz : W3.heap.size = W.heap.size + 3 := by rw [hW3]; simp
  have hB3 : Below W.heap.size W W3 := by rw [hW3]; exact ((Below.a1 W o1).alloc (by simp) o2).alloc (by simp; omega) o3
  have hx1 : ∀ i, W3.cell? ⟨W.heap.size, i, none⟩ = (#[.slice a.pN q.nodes.length a.cN, .int .i64 q.wh, .slice a.pB q.by'.length a.cB, .slice a.pS q.sh.length a.cS, .slice a.pO q.ords.length a.cO, .int .i64 q.lim] : Array Value)[i]? := fun i => by rw [hW3, World.cell?_alloc_old _ _ _ (by simp; omega), World.cell?_alloc_old _ _ _ (by simp), ho1, World.cell?_alloc_mark]
  have hx2 : W3.cell? ⟨W.heap.size + 1, 0, none⟩ = some (.slice pT nT cT) := by rw [hW3, World.cell?_alloc_old _ _ _ (by simp), ho2, show W.heap.size + 1 = (W.alloc o1).heap.size by simp, World.cell?_alloc_mark]; rfl
  have hx3 : W3.cell? ⟨W.heap.size + 2, 0, none⟩ = some (.int .i64 ((q.by'.length : Int) + (q.sh.length : Int))) := by rw [hW3, ho3, show W.heap.size + 2 = ((W.alloc o1).alloc o2).heap.size by simp, World.cell?_alloc_mark]; rfl
  have up : ∀ X, Below W3.heap.size W3 X → Below W.heap.size W X := fun X h => hB3.trans (h.mono (by omega))
  have HS : Hid (∀ X, Below W3.heap.size W3 X → (fun X => X.cell? ⟨W.heap.size, 1, none⟩ = some (.int .i64 q.wh) ∧ X.cell? ⟨W.heap.size, 2, none⟩ = some (.slice a.pB q.by'.length a.cB) ∧ X.cell? ⟨W.heap.size, 3, none⟩ = some (.slice a.pS q.sh.length a.cS) ∧ X.cell? ⟨W.heap.size, 4, none⟩ = some (.slice a.pO q.ords.length a.cO) ∧ X.cell? ⟨W.heap.size, 5, none⟩ = some (.int .i64 q.lim) ∧ X.cell? ⟨W.heap.size + 1, 0, none⟩ = some (.slice pT nT cT)) X) := fun X h => ⟨(h.cell (p := ⟨W.heap.size, 1, none⟩) (by simp; omega)).trans (hx1 1), (h.cell (p := ⟨W.heap.size, 2, none⟩) (by simp; omega)).trans (hx1 2), (h.cell (p := ⟨W.heap.size, 3, none⟩) (by simp; omega)).trans (hx1 3), (h.cell (p := ⟨W.heap.size, 4, none⟩) (by simp; omega)).trans (hx1 4), (h.cell (p := ⟨W.heap.size, 5, none⟩) (by simp; omega)).trans (hx1 5), (h.cell (p := ⟨W.heap.size + 1, 0, none⟩) (by simp; omega)).trans hx2⟩
  have d1 : Hid (∀ X, Below W3.heap.size W3 X → Calls Tryz.prog 136 #[.slice pT nT cT, .func (.func 137) #[] #[]] X fun e w' => e = .returned (flt (T.all (fun t => !(t == 0)))) ∧ w' = X) := fun X h => each46 137 eg47 _ (fun x => isTyped_any x X) hn (hT.below (up X h)) (by omega)
  have d9 : Hid (∀ X, Below W3.heap.size W3 X → Calls Tryz.prog 139 #[.slice pT nT cT, .int .i64 q.wh] X fun e w' => e = .returned (.int .i64 (tat T q.wh)) ∧ w' = X) := fun X h => typeAt_any hn (hT.below (up X h)) q.wh
  have dm := hide must_any
  have d15 : Hid (∀ X, Below W3.heap.size W3 X → Calls Tryz.prog 136 #[.slice a.pB q.by'.length a.cB, .func (.func 140) #[] #[]] X fun e w' => e = .returned (flt (q.by'.all isF)) ∧ w' = X) := fun X h => each46 140 eg24 _ (fun x => isField_any x X) rfl (hq.b.below (up X h)) (by have := hq.nb; omega)
  have d24 : Hid (∀ X, Below W3.heap.size W3 X → Calls Tryz.prog 141 #[.slice a.pS q.sh.length a.cS, .func (.func 142) #[] #[.pointer (some ⟨W.heap.size + 1, 0, none⟩)]] X fun e w' => e = .returned (flt (q.sh.all (fun x => shwS x T))) ∧ Below X.heap.size X w') := fun X h => by
    have hlt : W.heap.size + 1 < X.heap.size := by have := h.size; omega
    refine each50 142 eg51 (fun x => shwS x T) _ (fun x Y hY => ?_) rfl (hq.s.below (up X h)) (by have := hq.ns; omega)
    have hY' : Below W3.heap.size W3 Y := h.trans (hY.mono h.size)
    exact show51 hn (hT.below (up Y hY')) (Nat.lt_of_lt_of_le hlt hY.size) ((hY'.cell (p := ⟨W.heap.size + 1, 0, none⟩) (by simp; omega)).trans hx2) x
  have d28 : Hid (∀ X, Below W3.heap.size W3 X → Calls Tryz.prog 144 #[.slice a.pO q.ords.length a.cO, .func (.func 145) #[] #[.pointer (some ⟨W.heap.size + 1 + 1, 0, none⟩)]] X fun e w' => e = .returned (flt (q.ords.all (ordS (q.by'.length + q.sh.length)))) ∧ Below X.heap.size X w') := fun X h => by
    have hlt : W.heap.size + 2 < X.heap.size := by have := h.size; omega
    refine each53 145 eg54 (ordS (q.by'.length + q.sh.length)) _ (fun x Y hY => ?_) rfl (hq.o.below (up X h)) (by have := hq.no; omega)
    have hY' : Below W3.heap.size W3 Y := h.trans (hY.mono h.size)
    exact ord54 (Nat.lt_of_lt_of_le hlt hY.size) ((hY'.cell (p := ⟨W.heap.size + 2, 0, none⟩) (by simp; omega)).trans hx3) x
  have HUP := hide up
  have hb1 := hq.nb
  have hb2 := hq.ns
  obtain ⟨nN, hnN⟩ : ∃ n, n = q.nodes.length := ⟨_, rfl⟩
  obtain ⟨nB, hnB⟩ : ∃ n, n = q.by'.length := ⟨_, rfl⟩
  obtain ⟨nS, hnS⟩ : ∃ n, n = q.sh.length := ⟨_, rfl⟩
  obtain ⟨nO, hnO⟩ : ∃ n, n = q.ords.length := ⟨_, rfl⟩
  have HP : Hid (ptsS q T = [T.all (fun t => !(t == 0)), q.wh == -1 || tat T q.wh == 4, q.by'.all isF, decide (0 < nS), q.sh.all (fun x => shwS x T), q.ords.all (ordS (nB + nS)), decide (-1 ≤ q.lim)]) := by rw [hnS, hnB]; rfl
  unfold qV
  rw [← hnN, ← hnB, ← hnS, ← hnO] at ho1 ⊢
  rw [← hnB, ← hnS] at ho3
  simp only [← hnB, ← hnS, ← hnO] at HS d15 d24 d28 hb1 hb2
  clear hx1 hx2 hx3 hq hT hn hnN hnB hnS hnO up
  obtain ⟨nodes, wh, by', sh, ords, lim⟩ := q
  obtain ⟨pN, cN, pB, cB, pS, cS, pO, cO⟩ := a
  simp only at *
  obtain ⟨y1, hy1⟩ : ∃ y, y = T.all (fun t => !(t == 0)) := ⟨_, rfl⟩
  obtain ⟨tw, htw⟩ : ∃ y, y = tat T wh := ⟨_, rfl⟩
  obtain ⟨y3, hy3⟩ : ∃ y, y = by'.all isF := ⟨_, rfl⟩
  obtain ⟨y5, hy5⟩ : ∃ y, y = sh.all (fun x => shwS x T) := ⟨_, rfl⟩
  obtain ⟨y6, hy6⟩ : ∃ y, y = ords.all (ordS (nB + nS)) := ⟨_, rfl⟩
  rw [← hy1] at d1 HP
  rw [← htw] at d9 HP
  rw [← hy3] at d15 HP
  rw [← hy5] at d24 HP
  rw [← hy6] at d28 HP
  clear hy1 htw hy3 hy5 hy6
  have hwr : IntKind.i64.wrap ((nB : Int) + (nS : Int)) = (nB : Int) + (nS : Int) := by rw [IntKind.wrap_i64]; omega
  have HB3 := hide hB3; have HSZ := hide hsz
  clear hB3 hsz
  have hw1 : (wh == -1) = false := beqF hwh
  have HWT : Hid ((wh == -1) = false) := hw1
  clear hwh
  go_enter Tryz.func63, Tryz.ntmps63
  go_upto_region 2 with fail
  rw [← ho1, ← ho2, ← ho3, ← hW3]
  clear ho1 ho2 ho3 hW3 o1 o2 o3
  have BB : Hid (Below W3.heap.size W3 W3.drew) := (Below.refl _ _).drew
  refine wp_region_last (n := 36) (S := (fun X => X.cell? ⟨W.heap.size, 1, none⟩ = some (.int .i64 wh) ∧ X.cell? ⟨W.heap.size, 2, none⟩ = some (.slice pB nB cB) ∧ X.cell? ⟨W.heap.size, 3, none⟩ = some (.slice pS nS cS) ∧ X.cell? ⟨W.heap.size, 4, none⟩ = some (.slice pO nO cO) ∧ X.cell? ⟨W.heap.size, 5, none⟩ = some (.int .i64 lim) ∧ X.cell? ⟨W.heap.size + 1, 0, none⟩ = some (.slice pT nT cT))) (by kernel_rfl) (unhide HS _ (unhide BB)) (fun hHeld => ?_)
  refine tkN 0 ?_; refine tkW 2 ?_; refine tkN 3 ?_; refine tkW 4 ?_; refine tkW 13 ?_; refine tkN 14 ?_; refine tkW 16 ?_; refine tkN 17 ?_; refine tkW 18 ?_; refine tkW 19 ?_; refine tkW 21 ?_; refine tkN 22 ?_; refine tkW 23 ?_; refine tkW 25 ?_; refine tkN 26 ?_; refine tkW 27 ?_; refine tkW 29 ?_; refine tkN 30 ?_; refine tkW 31 ?_
  refine wpAnyL_one (i := 1) (by kernel_rfl) rfl (fun KK hK => ?_)
  go_simp
  go_wp2_with (first | (go_at_call 136; refine (unhide d1 _ (unhide BB)).mono ?_; rintro e x1 ⟨rfl, hw⟩))
  (try rw [hw])
  clear hw x1
  refine hK.out _ _ (unhide HS _ (unhide BB)) (fun hHeld => ?_)
  clear hK KK
  refine tkW 5 ?_; refine tkN 6 ?_; refine tkW 7 ?_; refine tkN 8 ?_
  refine wpAnyL_one (i := 9) (by kernel_rfl) rfl (fun KK hK => ?_)
  go_simp
  go_wp2_with (first | (go_at_call 139; refine (unhide d9 _ (unhide BB)).mono ?_; rintro e x2 ⟨rfl, hw⟩))
  (try rw [hw])
  clear hw x2
  refine hK.out _ _ (unhide HS _ (unhide BB)) (fun hHeld => ?_)
  clear hK KK
  refine tkW 10 ?_; refine tkW 11 ?_
  refine wpAnyL_one (i := 12) (by kernel_rfl) rfl (fun KK hK => ?_)
  go_simp
  go_wp2_with (first | (go_at_call 138; refine (unhide dm _ _).mono ?_; rintro e x3 ⟨rfl, hw⟩))
  (try rw [hw])
  clear hw x3
  refine hK.out _ _ (unhide HS _ (unhide BB)) (fun hHeld => ?_)
  clear hK KK
  refine wpAnyL_one (i := 15) (by kernel_rfl) rfl (fun KK hK => ?_)
  go_simp
  go_wp2_with (first | (go_at_call 136; refine (unhide d15 _ (unhide BB)).mono ?_; rintro e x4 ⟨rfl, hw⟩))
  (try rw [hw])
  clear hw x4
  refine hK.out _ _ (unhide HS _ (unhide BB)) (fun hHeld => ?_)
  clear hK KK
  refine wpAnyL_one (i := 20) (by kernel_rfl) rfl (fun KK hK => ?_)
  go_simp
  go_wp2_with (first | (go_at_call 138; refine (unhide dm _ _).mono ?_; rintro e x5 ⟨rfl, hw⟩))
  (try rw [hw])
  clear hw x5
  refine hK.out _ _ (unhide HS _ (unhide BB)) (fun hHeld => ?_)
  clear hK KK
  refine wpAnyL_one (i := 24) (by kernel_rfl) rfl (fun KK hK => ?_)
  go_simp
  go_wp2_with (first | (go_at_call 141; refine (unhide d24 _ (unhide BB)).mono ?_; rintro e x6 ⟨rfl, hw⟩))
  have BB : Hid (Below W3.heap.size W3 x6) := (unhide BB).trans (hw.mono (unhide BB).size)
  clear hw
  refine hK.out _ _ (unhide HS _ (unhide BB)) (fun hHeld => ?_)
  clear hK KK
  refine wpAnyL_one (i := 28) (by kernel_rfl) rfl (fun KK hK => ?_)
  go_simp
  go_wp2_with (first | (go_at_call 144; refine (unhide d28 _ (unhide BB)).mono ?_; rintro e x7 ⟨rfl, hw⟩))
  have BB : Hid (Below W3.heap.size W3 x7) := (unhide BB).trans (hw.mono (unhide BB).size)
  clear hw
  refine hK.out _ _ (unhide HS _ (unhide BB)) (fun hHeld => ?_)
  clear hK KK
  refine wpAnyL_one (i := 32) (by kernel_rfl) rfl (fun KK hK => ?_)
  go_simp
  go_wp2_with (first | (go_at_call 138; refine (unhide dm _ _).mono ?_; rintro e x8 ⟨rfl, hw⟩))
  (try rw [hw])
  clear hw x8
  refine hK.out _ _ (unhide HS _ (unhide BB)) (fun hHeld => ?_)
  clear hK KK
  refine wpAnyL_one (i := 33) (by kernel_rfl) rfl (fun KK hK => ?_)
  have hbs := run_bs y1 (wh == -1 || tw == 4) y3 (decide (0 < nS)) y5 y6 (decide (-1 ≤ lim))
  rw [hw1, Bool.false_or] at hbs
  go_wp2_with fail
  have BB : Hid (Below W3.heap.size W3 (x7.alloc (.cells #[flt y1, flt (tw == 4), flt y3, flt (decide (0 < nS)), flt y5, flt y6, flt (decide (-1 ≤ lim))] 81))) := (unhide BB).alloc (unhide BB).size _
  have dJ := hide (join_any (W := x7.alloc (.cells #[flt y1, flt (tw == 4), flt y3, flt (decide (0 < nS)), flt y5, flt y6, flt (decide (-1 ≤ lim))] 81)) (p := some ⟨x7.heap.size, 0, none⟩) (n := 7) (c := 7) (B := [y1, tw == 4, y3, decide (0 < nS), y5, y6, decide (-1 ≤ lim)]) rfl (errs_lie _ _ _ _ _ _ _ _) (by decide))
  refine hK.out _ _ (unhide HS _ (unhide BB)) (fun hHeld => ?_)
  clear hK KK hbs
  refine wpAnyL_one (i := 34) (by kernel_rfl) rfl (fun KK hK => ?_)
  go_simp
  go_wp2_with (first | (go_at_call 135; refine (unhide dJ).mono ?_; rintro e x9 ⟨v, rfl, hJ⟩))
  have BB9 : Hid (Below W3.heap.size W3 x9) := (unhide BB).trans (hJ.1.mono (unhide BB).size)
  have HJ9 := hide (hJ.up (unhide HUP _ (unhide BB)))
  clear hJ
  refine hK.out _ _ (unhide HS _ (unhide BB9)) (fun hHeld => ?_)
  clear hK KK
  refine tkW 35 ?_
  refine wpAnyL_done (by kernel_rfl) ?_
  clear hHeld
  go_wp2_with fail
  go_ret
  refine ⟨_, rfl, ?_⟩
  rw [unhide HP, unhide HWT, Bool.false_or]
  exact unhide HJ9
theorem faults_any {W : World} {q : Qy} {a : Qa} (hq : QIn W q a) {pT : Option Addr} {nT cT : Nat} {T : List Int} (hT : Lies kI W pT T) (hn : T.length = nT) (hnT : nT ≤ 2600000000000) : Calls Tryz.prog 63 #[qV q a, .slice pT nT cT] W fun e w' => ∃ v, e = .returned v ∧ JoinV W (ptsS q T) v w' := by
  by_cases h : q.wh = -1
  · exact faults_no hq hT hn hnT h
  · exact faults_wh hq hT hn hnT h
end Go.Proofs.YtfpbljfebjochaaGreatDoor
