import Derived.Test.YtbenciieenbmeaaGreatDoorW05
import Derived.Deep.Cut
/- typing: faults 23. -/
namespace Go.Proofs.YtbenciieenbmeaaGreatDoor
open Go Go.Shelf Go.ChangeShapes Go.WideShapes Go.ChangeAt Go.RowKit Go.Maps
set_option linter.unusedVariables false
/-- a query -/
structure Qy where
  nodes : List Nd
  wh : Int
  by' : List Int
  sh : List (Int × Int)
  ords : List (Int × Bool)
  lim : Int
/-- where a query's lists lie -/
structure Qa where
  pN : Option Addr
  cN : Nat
  pB : Option Addr
  cB : Nat
  pS : Option Addr
  cS : Nat
  pO : Option Addr
  cO : Nat
def qV (q : Qy) (a : Qa) : Value := .agg #[.slice a.pN q.nodes.length a.cN, .int .i64 q.wh, .slice a.pB q.by'.length a.cB, .slice a.pS q.sh.length a.cS, .slice a.pO q.ords.length a.cO, .int .i64 q.lim]
/-- a query lies in memory -/
structure QIn (W : World) (q : Qy) (a : Qa) : Prop where
  n : Lies kN W a.pN q.nodes
  b : Lies kI W a.pB q.by'
  s : Lies kG W a.pS q.sh
  o : Lies kO W a.pO q.ords
  nn : q.nodes.length ≤ 2600000000000
  nb : q.by'.length ≤ 17600000000000
  ns : q.sh.length ≤ 8800000000000
  no : q.ords.length ≤ 8800000000000
theorem QIn.below {W W' : World} {q : Qy} {a : Qa} (h : QIn W q a) (hb : Below W.heap.size W W') : QIn W' q a := ⟨h.n.below hb, h.b.below hb, h.s.below hb, h.o.below hb, h.nn, h.nb, h.ns, h.no⟩
/-- the seven points of a query, by its nodes' types -/
def ptsS (q : Qy) (T : List Int) : List Bool := [T.all (fun t => !(t == 0)), q.wh == -1 || tat T q.wh == 4, q.by'.all isF, decide (0 < q.sh.length), q.sh.all (fun x => shwS x T), q.ords.all (ordS (q.by'.length + q.sh.length)), decide (-1 ≤ q.lim)]

def bs128 (l : Array (Nat × Value)) : Sem Value := Instr.buildSlice 201 7 l
theorem bs128_is (l : Array (Nat × Value)) : Instr.buildSlice 201 7 l = bs128 l := rfl
theorem run_bs (b1 b2 b3 b4 b5 b6 b7 : Bool) (w : World) : (bs128 #[(0, flt b1), (1, flt b2), (2, flt b3), (3, flt b4), (4, flt b5), (5, flt b6), (6, flt b7)]).run Tryz.prog w = .ok (.slice (some ⟨w.heap.size, 0, none⟩) 7 7) (w.alloc (.cells #[flt b1, flt b2, flt b3, flt b4, flt b5, flt b6, flt b7] 100)) := by
  cases b1 <;> cases b2 <;> cases b3 <;> cases b4 <;> cases b5 <;> cases b6 <;> cases b7 <;> kernel_rfl
attribute [local go_sem ↓] bs128_is
theorem errs_lie (w : World) (b1 b2 b3 b4 b5 b6 b7 : Bool) : Lies kE (w.alloc (.cells #[flt b1, flt b2, flt b3, flt b4, flt b5, flt b6, flt b7] 100)) (some ⟨w.heap.size, 0, none⟩) [b1, b2, b3, b4, b5, b6, b7] := by
  refine ⟨(fun h => by cases h), fun k hk => ⟨w.heap.size, 0, rfl, by simp, fun j u hu => ?_⟩⟩
  rw [World.cell?_alloc_mark]
  have hj : j = 0 := by
    have := (List.getElem?_eq_some_iff.1 hu).1
    simpa [kE] using this
  subst hj
  simp only [kE, List.getElem?_cons_zero, Option.some.injEq, Nat.mul_one, Nat.add_zero, Nat.zero_add] at hu ⊢
  subst hu
  match k, hk with
  | 0, _ => rfl
  | 1, _ => rfl
  | 2, _ => rfl
  | 3, _ => rfl
  | 4, _ => rfl
  | 5, _ => rfl
  | 6, _ => rfl
set_option maxRecDepth 100000
set_option maxHeartbeats 4000000

theorem faults_no {W : World} {q : Qy} {a : Qa} (hq : QIn W q a) {pT : Option Addr} {nT cT : Nat} {T : List Int} (hT : Lies kI W pT T) (hn : T.length = nT) (hnT : nT ≤ 2600000000000) (hwh : q.wh = -1) : Calls Tryz.prog 43 #[qV q a, .slice pT nT cT] W fun e w' => ∃ v, e = .returned v ∧ JoinV W (ptsS q T) v w' := by
  obtain ⟨o1, ho1⟩ : ∃ o : Obj, o = .cells #[.slice a.pN q.nodes.length a.cN, .int .i64 q.wh, .slice a.pB q.by'.length a.cB, .slice a.pS q.sh.length a.cS, .slice a.pO q.ords.length a.cO, .int .i64 q.lim] 27 := ⟨_, rfl⟩
  obtain ⟨o2, ho2⟩ : ∃ o : Obj, o = .cells #[.slice pT nT cT] 23 := ⟨_, rfl⟩
  obtain ⟨o3, ho3⟩ : ∃ o : Obj, o = .cells #[.int .i64 ((q.by'.length : Int) + (q.sh.length : Int))] 3 := ⟨_, rfl⟩
  obtain ⟨W3, hW3⟩ : ∃ X, X = ((W.alloc o1).alloc o2).alloc o3 := ⟨_, rfl⟩
  have hsz : W3.heap.size = W.heap.size + 3 := by rw [hW3]; simp
  have hB3 : Below W.heap.size W W3 := by rw [hW3]; exact ((Below.a1 W o1).alloc (by simp) o2).alloc (by simp; omega) o3
  have hx1 : ∀ i, W3.cell? ⟨W.heap.size, i, none⟩ = (#[.slice a.pN q.nodes.length a.cN, .int .i64 q.wh, .slice a.pB q.by'.length a.cB, .slice a.pS q.sh.length a.cS, .slice a.pO q.ords.length a.cO, .int .i64 q.lim] : Array Value)[i]? := fun i => by rw [hW3, World.cell?_alloc_old _ _ _ (by simp; omega), World.cell?_alloc_old _ _ _ (by simp), ho1, World.cell?_alloc_mark]
  have hx2 : W3.cell? ⟨W.heap.size + 1, 0, none⟩ = some (.slice pT nT cT) := by rw [hW3, World.cell?_alloc_old _ _ _ (by simp), ho2, show W.heap.size + 1 = (W.alloc o1).heap.size by simp, World.cell?_alloc_mark]; rfl
  have hx3 : W3.cell? ⟨W.heap.size + 2, 0, none⟩ = some (.int .i64 ((q.by'.length : Int) + (q.sh.length : Int))) := by rw [hW3, ho3, show W.heap.size + 2 = ((W.alloc o1).alloc o2).heap.size by simp, World.cell?_alloc_mark]; rfl
  have up : ∀ X, Below W3.heap.size W3 X → Below W.heap.size W X := fun X h => hB3.trans (h.mono (by omega))
  have HS : Hid (∀ X, Below W3.heap.size W3 X → (fun X => X.cell? ⟨W.heap.size, 1, none⟩ = some (.int .i64 q.wh) ∧ X.cell? ⟨W.heap.size, 2, none⟩ = some (.slice a.pB q.by'.length a.cB) ∧ X.cell? ⟨W.heap.size, 3, none⟩ = some (.slice a.pS q.sh.length a.cS) ∧ X.cell? ⟨W.heap.size, 4, none⟩ = some (.slice a.pO q.ords.length a.cO) ∧ X.cell? ⟨W.heap.size, 5, none⟩ = some (.int .i64 q.lim) ∧ X.cell? ⟨W.heap.size + 1, 0, none⟩ = some (.slice pT nT cT)) X) := fun X h => ⟨(h.cell (p := ⟨W.heap.size, 1, none⟩) (by simp; omega)).trans (hx1 1), (h.cell (p := ⟨W.heap.size, 2, none⟩) (by simp; omega)).trans (hx1 2), (h.cell (p := ⟨W.heap.size, 3, none⟩) (by simp; omega)).trans (hx1 3), (h.cell (p := ⟨W.heap.size, 4, none⟩) (by simp; omega)).trans (hx1 4), (h.cell (p := ⟨W.heap.size, 5, none⟩) (by simp; omega)).trans (hx1 5), (h.cell (p := ⟨W.heap.size + 1, 0, none⟩) (by simp; omega)).trans hx2⟩
  have d1 : Hid (∀ X, Below W3.heap.size W3 X → Calls Tryz.prog 65 #[.slice pT nT cT, .func (.func 66) #[] #[]] X fun e w' => e = .returned (flt (T.all (fun t => !(t == 0)))) ∧ w' = X) := fun X h => each46 66 eg47 _ (fun x => isTyped_any x X) hn (hT.below (up X h)) (by omega)
  have d9 : Hid (∀ X, Below W3.heap.size W3 X → Calls Tryz.prog 68 #[.slice pT nT cT, .int .i64 q.wh] X fun e w' => e = .returned (.int .i64 (tat T q.wh)) ∧ w' = X) := fun X h => typeAt_any hn (hT.below (up X h)) q.wh
  have dm := hide must_any
  have d15 : Hid (∀ X, Below W3.heap.size W3 X → Calls Tryz.prog 65 #[.slice a.pB q.by'.length a.cB, .func (.func 69) #[] #[]] X fun e w' => e = .returned (flt (q.by'.all isF)) ∧ w' = X) := fun X h => each46 69 eg24 _ (fun x => isField_any x X) rfl (hq.b.below (up X h)) (by have := hq.nb; omega)
  have d24 : Hid (∀ X, Below W3.heap.size W3 X → Calls Tryz.prog 70 #[.slice a.pS q.sh.length a.cS, .func (.func 71) #[] #[.pointer (some ⟨W.heap.size + 1, 0, none⟩)]] X fun e w' => e = .returned (flt (q.sh.all (fun x => shwS x T))) ∧ Below X.heap.size X w') := fun X h => by
    have hlt : W.heap.size + 1 < X.heap.size := by have := h.size; omega
    refine each50 71 eg51 (fun x => shwS x T) _ (fun x Y hY => ?_) rfl (hq.s.below (up X h)) (by have := hq.ns; omega)
    have hY' : Below W3.heap.size W3 Y := h.trans (hY.mono h.size)
    exact show51 hn (hT.below (up Y hY')) (Nat.lt_of_lt_of_le hlt hY.size) ((hY'.cell (p := ⟨W.heap.size + 1, 0, none⟩) (by simp; omega)).trans hx2) x
  have d28 : Hid (∀ X, Below W3.heap.size W3 X → Calls Tryz.prog 73 #[.slice a.pO q.ords.length a.cO, .func (.func 74) #[] #[.pointer (some ⟨W.heap.size + 1 + 1, 0, none⟩)]] X fun e w' => e = .returned (flt (q.ords.all (ordS (q.by'.length + q.sh.length)))) ∧ Below X.heap.size X w') := fun X h => by
    have hlt : W.heap.size + 2 < X.heap.size := by have := h.size; omega
    refine each53 74 eg54 (ordS (q.by'.length + q.sh.length)) _ (fun x Y hY => ?_) rfl (hq.o.below (up X h)) (by have := hq.no; omega)
    have hY' : Below W3.heap.size W3 Y := h.trans (hY.mono h.size)
    exact ord54 (Nat.lt_of_lt_of_le hlt hY.size) ((hY'.cell (p := ⟨W.heap.size + 2, 0, none⟩) (by simp; omega)).trans hx3) x
  have HUP := hide up
  have hb1 := hq.nb
  have hb2 := hq.ns
  obtain ⟨nN, hnN⟩ : ∃ n, n = q.nodes.length := ⟨_, rfl⟩
  obtain ⟨nB, hnB⟩ : ∃ n, n = q.by'.length := ⟨_, rfl⟩
  obtain ⟨nS, hnS⟩ : ∃ n, n = q.sh.length := ⟨_, rfl⟩
  obtain ⟨nO, hnO⟩ : ∃ n, n = q.ords.length := ⟨_, rfl⟩
  have HP : Hid (ptsS q T = [T.all (fun t => !(t == 0)), q.wh == -1 || tat T q.wh == 4, q.by'.all isF, decide (0 < nS), q.sh.all (fun x => shwS x T), q.ords.all (ordS (nB + nS)), decide (-1 ≤ q.lim)]) := by rw [hnS, hnB]; rfl
  unfold qV
  rw [← hnN, ← hnB, ← hnS, ← hnO] at ho1 ⊢
  rw [← hnB, ← hnS] at ho3
  simp only [← hnB, ← hnS, ← hnO] at HS d15 d24 d28 hb1 hb2
  clear hx1 hx2 hx3 hq hT hn hnN hnB hnS hnO up
  obtain ⟨nodes, wh, by', sh, ords, lim⟩ := q
  obtain ⟨pN, cN, pB, cB, pS, cS, pO, cO⟩ := a
  simp only at *
  obtain ⟨y1, hy1⟩ : ∃ y, y = T.all (fun t => !(t == 0)) := ⟨_, rfl⟩
  obtain ⟨tw, htw⟩ : ∃ y, y = tat T wh := ⟨_, rfl⟩
  obtain ⟨y3, hy3⟩ : ∃ y, y = by'.all isF := ⟨_, rfl⟩
  obtain ⟨y5, hy5⟩ : ∃ y, y = sh.all (fun x => shwS x T) := ⟨_, rfl⟩
  obtain ⟨y6, hy6⟩ : ∃ y, y = ords.all (ordS (nB + nS)) := ⟨_, rfl⟩
  rw [← hy1] at d1 HP
  rw [← htw] at d9 HP
  rw [← hy3] at d15 HP
  rw [← hy5] at d24 HP
  rw [← hy6] at d28 HP
  clear hy1 htw hy3 hy5 hy6
  have hwr : IntKind.i64.wrap ((nB : Int) + (nS : Int)) = (nB : Int) + (nS : Int) := by rw [IntKind.wrap_i64]; omega
  have HB3 := hide hB3; have HSZ := hide hsz
  clear hB3 hsz
  have hw1 : (wh == -1) = true := beqT hwh
  have HWT : Hid ((wh == -1) = true) := hw1
  clear hwh d9
  go_enter Tryz.func43, Tryz.ntmps43
  go_upto_region 2 with fail
  rw [← ho1, ← ho2, ← ho3, ← hW3]
  clear ho1 ho2 ho3 hW3 o1 o2 o3
  have BB : Hid (Below W3.heap.size W3 W3.drew) := (Below.refl _ _).drew
  refine wp_region_last (n := 36) (S := (fun X => X.cell? ⟨W.heap.size, 1, none⟩ = some (.int .i64 wh) ∧ X.cell? ⟨W.heap.size, 2, none⟩ = some (.slice pB nB cB) ∧ X.cell? ⟨W.heap.size, 3, none⟩ = some (.slice pS nS cS) ∧ X.cell? ⟨W.heap.size, 4, none⟩ = some (.slice pO nO cO) ∧ X.cell? ⟨W.heap.size, 5, none⟩ = some (.int .i64 lim) ∧ X.cell? ⟨W.heap.size + 1, 0, none⟩ = some (.slice pT nT cT))) (by kernel_rfl) (unhide HS _ (unhide BB)) (fun hHeld => ?_)
  refine tkN 0 ?_; refine tkW 2 ?_; refine tkN 3 ?_; refine tkW 4 ?_; refine tkW 13 ?_; refine tkN 14 ?_; refine tkW 16 ?_; refine tkN 17 ?_; refine tkW 18 ?_; refine tkW 19 ?_; refine tkW 21 ?_; refine tkN 22 ?_; refine tkW 23 ?_; refine tkW 25 ?_; refine tkN 26 ?_; refine tkW 27 ?_; refine tkW 29 ?_; refine tkN 30 ?_; refine tkW 31 ?_
  refine wpAnyL_one (i := 1) (by kernel_rfl) rfl (fun KK hK => ?_)
  go_simp
  go_wp2_with (first | (go_at_call 65; refine (unhide d1 _ (unhide BB)).mono ?_; rintro e x1 ⟨rfl, hw⟩))
  (try rw [hw])
  clear hw x1
  refine hK.out _ _ (unhide HS _ (unhide BB)) (fun hHeld => ?_)
  clear hK KK
  refine tkW 5 ?_; refine tkX 6 ?_; refine tkX 7 ?_; refine tkX 8 ?_; refine tkX 9 ?_; refine tkX 10 ?_; refine tkW 11 ?_
  refine wpAnyL_one (i := 12) (by kernel_rfl) rfl (fun KK hK => ?_)
  go_simp
  go_wp2_with (first | (go_at_call 67; refine (unhide dm _ _).mono ?_; rintro e x3 ⟨rfl, hw⟩))
  (try rw [hw])
  clear hw x3
  refine hK.out _ _ (unhide HS _ (unhide BB)) (fun hHeld => ?_)
  clear hK KK
  refine wpAnyL_one (i := 15) (by kernel_rfl) rfl (fun KK hK => ?_)
  go_simp
  go_wp2_with (first | (go_at_call 65; refine (unhide d15 _ (unhide BB)).mono ?_; rintro e x4 ⟨rfl, hw⟩))
  (try rw [hw])
  clear hw x4
  refine hK.out _ _ (unhide HS _ (unhide BB)) (fun hHeld => ?_)
  clear hK KK
  refine wpAnyL_one (i := 20) (by kernel_rfl) rfl (fun KK hK => ?_)
  go_simp
  go_wp2_with (first | (go_at_call 67; refine (unhide dm _ _).mono ?_; rintro e x5 ⟨rfl, hw⟩))
  (try rw [hw])
  clear hw x5
  refine hK.out _ _ (unhide HS _ (unhide BB)) (fun hHeld => ?_)
  clear hK KK
  refine wpAnyL_one (i := 24) (by kernel_rfl) rfl (fun KK hK => ?_)
  go_simp
  go_wp2_with (first | (go_at_call 70; refine (unhide d24 _ (unhide BB)).mono ?_; rintro e x6 ⟨rfl, hw⟩))
  have BB : Hid (Below W3.heap.size W3 x6) := (unhide BB).trans (hw.mono (unhide BB).size)
  clear hw
  refine hK.out _ _ (unhide HS _ (unhide BB)) (fun hHeld => ?_)
  clear hK KK
  refine wpAnyL_one (i := 28) (by kernel_rfl) rfl (fun KK hK => ?_)
  go_simp
  go_wp2_with (first | (go_at_call 73; refine (unhide d28 _ (unhide BB)).mono ?_; rintro e x7 ⟨rfl, hw⟩))
  have BB : Hid (Below W3.heap.size W3 x7) := (unhide BB).trans (hw.mono (unhide BB).size)
  clear hw
  refine hK.out _ _ (unhide HS _ (unhide BB)) (fun hHeld => ?_)
  clear hK KK
  refine wpAnyL_one (i := 32) (by kernel_rfl) rfl (fun KK hK => ?_)
  go_simp
  go_wp2_with (first | (go_at_call 67; refine (unhide dm _ _).mono ?_; rintro e x8 ⟨rfl, hw⟩))
  (try rw [hw])
  clear hw x8
  refine hK.out _ _ (unhide HS _ (unhide BB)) (fun hHeld => ?_)
  clear hK KK
  refine wpAnyL_one (i := 33) (by kernel_rfl) rfl (fun KK hK => ?_)
  have hbs := run_bs y1 (wh == -1 || tw == 4) y3 (decide (0 < nS)) y5 y6 (decide (-1 ≤ lim))
  rw [hw1, Bool.true_or] at hbs
  go_wp2_with fail
  have BB : Hid (Below W3.heap.size W3 (x7.alloc (.cells #[flt y1, flt true, flt y3, flt (decide (0 < nS)), flt y5, flt y6, flt (decide (-1 ≤ lim))] 100))) := (unhide BB).alloc (unhide BB).size _
  have dJ := hide (join_any (W := x7.alloc (.cells #[flt y1, flt true, flt y3, flt (decide (0 < nS)), flt y5, flt y6, flt (decide (-1 ≤ lim))] 100)) (p := some ⟨x7.heap.size, 0, none⟩) (n := 7) (c := 7) (B := [y1, true, y3, decide (0 < nS), y5, y6, decide (-1 ≤ lim)]) rfl (errs_lie _ _ _ _ _ _ _ _) (by decide))
  refine hK.out _ _ (unhide HS _ (unhide BB)) (fun hHeld => ?_)
  clear hK KK hbs
  refine wpAnyL_one (i := 34) (by kernel_rfl) rfl (fun KK hK => ?_)
  go_simp
  go_wp2_with (first | (go_at_call 64; refine (unhide dJ).mono ?_; rintro e x9 ⟨v, rfl, hJ⟩))
  have BB9 : Hid (Below W3.heap.size W3 x9) := (unhide BB).trans (hJ.1.mono (unhide BB).size)
  have HJ9 := hide (hJ.up (unhide HUP _ (unhide BB)))
  clear hJ
  refine hK.out _ _ (unhide HS _ (unhide BB9)) (fun hHeld => ?_)
  clear hK KK
  refine tkW 35 ?_
  refine wpAnyL_done (by kernel_rfl) ?_
  clear hHeld
  go_wp2_with fail
  go_ret
  refine ⟨_, rfl, ?_⟩
  rw [unhide HP, unhide HWT, Bool.true_or]
  exact unhide HJ9

theorem faults_wh {W : World} {q : Qy} {a : Qa} (hq : QIn W q a) {pT : Option Addr} {nT cT : Nat} {T : List Int} (hT : Lies kI W pT T) (hn : T.length = nT) (hnT : nT ≤ 2600000000000) (hwh : ¬ q.wh = -1) : Calls Tryz.prog 43 #[qV q a, .slice pT nT cT] W fun e w' => ∃ v, e = .returned v ∧ JoinV W (ptsS q T) v w' := by
  obtain ⟨o1, ho1⟩ : ∃ o : Obj, o = .cells #[.slice a.pN q.nodes.length a.cN, .int .i64 q.wh, .slice a.pB q.by'.length a.cB, .slice a.pS q.sh.length a.cS, .slice a.pO q.ords.length a.cO, .int .i64 q.lim] 27 := ⟨_, rfl⟩
  obtain ⟨o2, ho2⟩ : ∃ o : Obj, o = .cells #[.slice pT nT cT] 23 := ⟨_, rfl⟩
  obtain ⟨o3, ho3⟩ : ∃ o : Obj, o = .cells #[.int .i64 ((q.by'.length : Int) + (q.sh.length : Int))] 3 := ⟨_, rfl⟩
  obtain ⟨W3, hW3⟩ : ∃ X, X = ((W.alloc o1).alloc o2).alloc o3 := ⟨_, rfl⟩
  have hsz : W3.heap.size = W.heap.size + 3 := by rw [hW3]; simp
  have hB3 : Below W.heap.size W W3 := by rw [hW3]; exact ((Below.a1 W o1).alloc (by simp) o2).alloc (by simp; omega) o3
  have hx1 : ∀ i, W3.cell? ⟨W.heap.size, i, none⟩ = (#[.slice a.pN q.nodes.length a.cN, .int .i64 q.wh, .slice a.pB q.by'.length a.cB, .slice a.pS q.sh.length a.cS, .slice a.pO q.ords.length a.cO, .int .i64 q.lim] : Array Value)[i]? := fun i => by rw [hW3, World.cell?_alloc_old _ _ _ (by simp; omega), World.cell?_alloc_old _ _ _ (by simp), ho1, World.cell?_alloc_mark]
  have hx2 : W3.cell? ⟨W.heap.size + 1, 0, none⟩ = some (.slice pT nT cT) := by rw [hW3, World.cell?_alloc_old _ _ _ (by simp), ho2, show W.heap.size + 1 = (W.alloc o1).heap.size by simp, World.cell?_alloc_mark]; rfl
  have hx3 : W3.cell? ⟨W.heap.size + 2, 0, none⟩ = some (.int .i64 ((q.by'.length : Int) + (q.sh.length : Int))) := by rw [hW3, ho3, show W.heap.size + 2 = ((W.alloc o1).alloc o2).heap.size by simp, World.cell?_alloc_mark]; rfl
  have up : ∀ X, Below W3.heap.size W3 X → Below W.heap.size W X := fun X h => hB3.trans (h.mono (by omega))
  have HS : Hid (∀ X, Below W3.heap.size W3 X → (fun X => X.cell? ⟨W.heap.size, 1, none⟩ = some (.int .i64 q.wh) ∧ X.cell? ⟨W.heap.size, 2, none⟩ = some (.slice a.pB q.by'.length a.cB) ∧ X.cell? ⟨W.heap.size, 3, none⟩ = some (.slice a.pS q.sh.length a.cS) ∧ X.cell? ⟨W.heap.size, 4, none⟩ = some (.slice a.pO q.ords.length a.cO) ∧ X.cell? ⟨W.heap.size, 5, none⟩ = some (.int .i64 q.lim) ∧ X.cell? ⟨W.heap.size + 1, 0, none⟩ = some (.slice pT nT cT)) X) := fun X h => ⟨(h.cell (p := ⟨W.heap.size, 1, none⟩) (by simp; omega)).trans (hx1 1), (h.cell (p := ⟨W.heap.size, 2, none⟩) (by simp; omega)).trans (hx1 2), (h.cell (p := ⟨W.heap.size, 3, none⟩) (by simp; omega)).trans (hx1 3), (h.cell (p := ⟨W.heap.size, 4, none⟩) (by simp; omega)).trans (hx1 4), (h.cell (p := ⟨W.heap.size, 5, none⟩) (by simp; omega)).trans (hx1 5), (h.cell (p := ⟨W.heap.size + 1, 0, none⟩) (by simp; omega)).trans hx2⟩
  have d1 : Hid (∀ X, Below W3.heap.size W3 X → Calls Tryz.prog 65 #[.slice pT nT cT, .func (.func 66) #[] #[]] X fun e w' => e = .returned (flt (T.all (fun t => !(t == 0)))) ∧ w' = X) := fun X h => each46 66 eg47 _ (fun x => isTyped_any x X) hn (hT.below (up X h)) (by omega)
  have d9 : Hid (∀ X, Below W3.heap.size W3 X → Calls Tryz.prog 68 #[.slice pT nT cT, .int .i64 q.wh] X fun e w' => e = .returned (.int .i64 (tat T q.wh)) ∧ w' = X) := fun X h => typeAt_any hn (hT.below (up X h)) q.wh
  have dm := hide must_any
  have d15 : Hid (∀ X, Below W3.heap.size W3 X → Calls Tryz.prog 65 #[.slice a.pB q.by'.length a.cB, .func (.func 69) #[] #[]] X fun e w' => e = .returned (flt (q.by'.all isF)) ∧ w' = X) := fun X h => each46 69 eg24 _ (fun x => isField_any x X) rfl (hq.b.below (up X h)) (by have := hq.nb; omega)
  have d24 : Hid (∀ X, Below W3.heap.size W3 X → Calls Tryz.prog 70 #[.slice a.pS q.sh.length a.cS, .func (.func 71) #[] #[.pointer (some ⟨W.heap.size + 1, 0, none⟩)]] X fun e w' => e = .returned (flt (q.sh.all (fun x => shwS x T))) ∧ Below X.heap.size X w') := fun X h => by
    have hlt : W.heap.size + 1 < X.heap.size := by have := h.size; omega
    refine each50 71 eg51 (fun x => shwS x T) _ (fun x Y hY => ?_) rfl (hq.s.below (up X h)) (by have := hq.ns; omega)
    have hY' : Below W3.heap.size W3 Y := h.trans (hY.mono h.size)
    exact show51 hn (hT.below (up Y hY')) (Nat.lt_of_lt_of_le hlt hY.size) ((hY'.cell (p := ⟨W.heap.size + 1, 0, none⟩) (by simp; omega)).trans hx2) x
  have d28 : Hid (∀ X, Below W3.heap.size W3 X → Calls Tryz.prog 73 #[.slice a.pO q.ords.length a.cO, .func (.func 74) #[] #[.pointer (some ⟨W.heap.size + 1 + 1, 0, none⟩)]] X fun e w' => e = .returned (flt (q.ords.all (ordS (q.by'.length + q.sh.length)))) ∧ Below X.heap.size X w') := fun X h => by
    have hlt : W.heap.size + 2 < X.heap.size := by have := h.size; omega
    refine each53 74 eg54 (ordS (q.by'.length + q.sh.length)) _ (fun x Y hY => ?_) rfl (hq.o.below (up X h)) (by have := hq.no; omega)
    have hY' : Below W3.heap.size W3 Y := h.trans (hY.mono h.size)
    exact ord54 (Nat.lt_of_lt_of_le hlt hY.size) ((hY'.cell (p := ⟨W.heap.size + 2, 0, none⟩) (by simp; omega)).trans hx3) x
  have HUP := hide up
  have hb1 := hq.nb
  have hb2 := hq.ns
  obtain ⟨nN, hnN⟩ : ∃ n, n = q.nodes.length := ⟨_, rfl⟩
  obtain ⟨nB, hnB⟩ : ∃ n, n = q.by'.length := ⟨_, rfl⟩
  obtain ⟨nS, hnS⟩ : ∃ n, n = q.sh.length := ⟨_, rfl⟩
  obtain ⟨nO, hnO⟩ : ∃ n, n = q.ords.length := ⟨_, rfl⟩
  have HP : Hid (ptsS q T = [T.all (fun t => !(t == 0)), q.wh == -1 || tat T q.wh == 4, q.by'.all isF, decide (0 < nS), q.sh.all (fun x => shwS x T), q.ords.all (ordS (nB + nS)), decide (-1 ≤ q.lim)]) := by rw [hnS, hnB]; rfl
  unfold qV
  rw [← hnN, ← hnB, ← hnS, ← hnO] at ho1 ⊢
  rw [← hnB, ← hnS] at ho3
  simp only [← hnB, ← hnS, ← hnO] at HS d15 d24 d28 hb1 hb2
  clear hx1 hx2 hx3 hq hT hn hnN hnB hnS hnO up
  obtain ⟨nodes, wh, by', sh, ords, lim⟩ := q
  obtain ⟨pN, cN, pB, cB, pS, cS, pO, cO⟩ := a
  simp only at *
  obtain ⟨y1, hy1⟩ : ∃ y, y = T.all (fun t => !(t == 0)) := ⟨_, rfl⟩
  obtain ⟨tw, htw⟩ : ∃ y, y = tat T wh := ⟨_, rfl⟩
  obtain ⟨y3, hy3⟩ : ∃ y, y = by'.all isF := ⟨_, rfl⟩
  obtain ⟨y5, hy5⟩ : ∃ y, y = sh.all (fun x => shwS x T) := ⟨_, rfl⟩
  obtain ⟨y6, hy6⟩ : ∃ y, y = ords.all (ordS (nB + nS)) := ⟨_, rfl⟩
  rw [← hy1] at d1 HP
  rw [← htw] at d9 HP
  rw [← hy3] at d15 HP
  rw [← hy5] at d24 HP
  rw [← hy6] at d28 HP
  clear hy1 htw hy3 hy5 hy6
  have hwr : IntKind.i64.wrap ((nB : Int) + (nS : Int)) = (nB : Int) + (nS : Int) := by rw [IntKind.wrap_i64]; omega
  have HB3 := hide hB3; have HSZ := hide hsz
  clear hB3 hsz
  have hw1 : (wh == -1) = false := beqF hwh
  have HWT : Hid ((wh == -1) = false) := hw1
  clear hwh
  go_enter Tryz.func43, Tryz.ntmps43
  go_upto_region 2 with fail
  rw [← ho1, ← ho2, ← ho3, ← hW3]
  clear ho1 ho2 ho3 hW3 o1 o2 o3
  have BB : Hid (Below W3.heap.size W3 W3.drew) := (Below.refl _ _).drew
  refine wp_region_last (n := 36) (S := (fun X => X.cell? ⟨W.heap.size, 1, none⟩ = some (.int .i64 wh) ∧ X.cell? ⟨W.heap.size, 2, none⟩ = some (.slice pB nB cB) ∧ X.cell? ⟨W.heap.size, 3, none⟩ = some (.slice pS nS cS) ∧ X.cell? ⟨W.heap.size, 4, none⟩ = some (.slice pO nO cO) ∧ X.cell? ⟨W.heap.size, 5, none⟩ = some (.int .i64 lim) ∧ X.cell? ⟨W.heap.size + 1, 0, none⟩ = some (.slice pT nT cT))) (by kernel_rfl) (unhide HS _ (unhide BB)) (fun hHeld => ?_)
  refine tkN 0 ?_; refine tkW 2 ?_; refine tkN 3 ?_; refine tkW 4 ?_; refine tkW 13 ?_; refine tkN 14 ?_; refine tkW 16 ?_; refine tkN 17 ?_; refine tkW 18 ?_; refine tkW 19 ?_; refine tkW 21 ?_; refine tkN 22 ?_; refine tkW 23 ?_; refine tkW 25 ?_; refine tkN 26 ?_; refine tkW 27 ?_; refine tkW 29 ?_; refine tkN 30 ?_; refine tkW 31 ?_
  refine wpAnyL_one (i := 1) (by kernel_rfl) rfl (fun KK hK => ?_)
  go_simp
  go_wp2_with (first | (go_at_call 65; refine (unhide d1 _ (unhide BB)).mono ?_; rintro e x1 ⟨rfl, hw⟩))
  (try rw [hw])
  clear hw x1
  refine hK.out _ _ (unhide HS _ (unhide BB)) (fun hHeld => ?_)
  clear hK KK
  refine tkW 5 ?_; refine tkN 6 ?_; refine tkW 7 ?_; refine tkN 8 ?_
  refine wpAnyL_one (i := 9) (by kernel_rfl) rfl (fun KK hK => ?_)
  go_simp
  go_wp2_with (first | (go_at_call 68; refine (unhide d9 _ (unhide BB)).mono ?_; rintro e x2 ⟨rfl, hw⟩))
  (try rw [hw])
  clear hw x2
  refine hK.out _ _ (unhide HS _ (unhide BB)) (fun hHeld => ?_)
  clear hK KK
  refine tkW 10 ?_; refine tkW 11 ?_
  refine wpAnyL_one (i := 12) (by kernel_rfl) rfl (fun KK hK => ?_)
  go_simp
  go_wp2_with (first | (go_at_call 67; refine (unhide dm _ _).mono ?_; rintro e x3 ⟨rfl, hw⟩))
  (try rw [hw])
  clear hw x3
  refine hK.out _ _ (unhide HS _ (unhide BB)) (fun hHeld => ?_)
  clear hK KK
  refine wpAnyL_one (i := 15) (by kernel_rfl) rfl (fun KK hK => ?_)
  go_simp
  go_wp2_with (first | (go_at_call 65; refine (unhide d15 _ (unhide BB)).mono ?_; rintro e x4 ⟨rfl, hw⟩))
  (try rw [hw])
  clear hw x4
  refine hK.out _ _ (unhide HS _ (unhide BB)) (fun hHeld => ?_)
  clear hK KK
  refine wpAnyL_one (i := 20) (by kernel_rfl) rfl (fun KK hK => ?_)
  go_simp
  go_wp2_with (first | (go_at_call 67; refine (unhide dm _ _).mono ?_; rintro e x5 ⟨rfl, hw⟩))
  (try rw [hw])
  clear hw x5
  refine hK.out _ _ (unhide HS _ (unhide BB)) (fun hHeld => ?_)
  clear hK KK
  refine wpAnyL_one (i := 24) (by kernel_rfl) rfl (fun KK hK => ?_)
  go_simp
  go_wp2_with (first | (go_at_call 70; refine (unhide d24 _ (unhide BB)).mono ?_; rintro e x6 ⟨rfl, hw⟩))
  have BB : Hid (Below W3.heap.size W3 x6) := (unhide BB).trans (hw.mono (unhide BB).size)
  clear hw
  refine hK.out _ _ (unhide HS _ (unhide BB)) (fun hHeld => ?_)
  clear hK KK
  refine wpAnyL_one (i := 28) (by kernel_rfl) rfl (fun KK hK => ?_)
  go_simp
  go_wp2_with (first | (go_at_call 73; refine (unhide d28 _ (unhide BB)).mono ?_; rintro e x7 ⟨rfl, hw⟩))
  have BB : Hid (Below W3.heap.size W3 x7) := (unhide BB).trans (hw.mono (unhide BB).size)
  clear hw
  refine hK.out _ _ (unhide HS _ (unhide BB)) (fun hHeld => ?_)
  clear hK KK
  refine wpAnyL_one (i := 32) (by kernel_rfl) rfl (fun KK hK => ?_)
  go_simp
  go_wp2_with (first | (go_at_call 67; refine (unhide dm _ _).mono ?_; rintro e x8 ⟨rfl, hw⟩))
  (try rw [hw])
  clear hw x8
  refine hK.out _ _ (unhide HS _ (unhide BB)) (fun hHeld => ?_)
  clear hK KK
  refine wpAnyL_one (i := 33) (by kernel_rfl) rfl (fun KK hK => ?_)
  have hbs := run_bs y1 (wh == -1 || tw == 4) y3 (decide (0 < nS)) y5 y6 (decide (-1 ≤ lim))
  rw [hw1, Bool.false_or] at hbs
  go_wp2_with fail
  have BB : Hid (Below W3.heap.size W3 (x7.alloc (.cells #[flt y1, flt (tw == 4), flt y3, flt (decide (0 < nS)), flt y5, flt y6, flt (decide (-1 ≤ lim))] 100))) := (unhide BB).alloc (unhide BB).size _
  have dJ := hide (join_any (W := x7.alloc (.cells #[flt y1, flt (tw == 4), flt y3, flt (decide (0 < nS)), flt y5, flt y6, flt (decide (-1 ≤ lim))] 100)) (p := some ⟨x7.heap.size, 0, none⟩) (n := 7) (c := 7) (B := [y1, tw == 4, y3, decide (0 < nS), y5, y6, decide (-1 ≤ lim)]) rfl (errs_lie _ _ _ _ _ _ _ _) (by decide))
  refine hK.out _ _ (unhide HS _ (unhide BB)) (fun hHeld => ?_)
  clear hK KK hbs
  refine wpAnyL_one (i := 34) (by kernel_rfl) rfl (fun KK hK => ?_)
  go_simp
  go_wp2_with (first | (go_at_call 64; refine (unhide dJ).mono ?_; rintro e x9 ⟨v, rfl, hJ⟩))
  have BB9 : Hid (Below W3.heap.size W3 x9) := (unhide BB).trans (hJ.1.mono (unhide BB).size)
  have HJ9 := hide (hJ.up (unhide HUP _ (unhide BB)))
  clear hJ
  refine hK.out _ _ (unhide HS _ (unhide BB9)) (fun hHeld => ?_)
  clear hK KK
  refine tkW 35 ?_
  refine wpAnyL_done (by kernel_rfl) ?_
  clear hHeld
  go_wp2_with fail
  go_ret
  refine ⟨_, rfl, ?_⟩
  rw [unhide HP, unhide HWT, Bool.false_or]
  exact unhide HJ9
theorem faults_any {W : World} {q : Qy} {a : Qa} (hq : QIn W q a) {pT : Option Addr} {nT cT : Nat} {T : List Int} (hT : Lies kI W pT T) (hn : T.length = nT) (hnT : nT ≤ 2600000000000) : Calls Tryz.prog 43 #[qV q a, .slice pT nT cT] W fun e w' => ∃ v, e = .returned v ∧ JoinV W (ptsS q T) v w' := by
  by_cases h : q.wh = -1
  · exact faults_no hq hT hn hnT h
  · exact faults_wh hq hT hn hnT h
end Go.Proofs.YtbenciieenbmeaaGreatDoor
/- typing: columns 24. -/
namespace Go.Proofs.YtbenciieenbmeaaGreatDoor
open Go Go.Shelf Go.ChangeShapes Go.WideShapes Go.ChangeAt Go.RowKit Go.Maps
set_option linter.unusedVariables false
set_option maxRecDepth 100000
set_option maxHeartbeats 4000000
def fldT' (f : Int) : Int := (fldS f).2
def colT (T : List Int) (x : Int × Int) : Int := if x.1 = 1 then 1 else tat T x.2
/-- the types of a query's columns -/
def colS (q : Qy) (T : List Int) : List Int := q.by'.map fldT' ++ q.sh.map (colT T)
theorem Rw.up {α : Type} {K : Kd α} {W X wr : World} {v : Value} {n : Nat} {L : List α} (h : Rw K X wr v n L) (hb : Below W.heap.size W X) : Rw K W wr v n L := ⟨row_le h.row hb.size, hb.trans (h.bel.mono hb.size), h.len⟩
theorem shw_in {x : Int × Int} {T : List Int} (h : shwS x T = true) (h1 : ¬ x.1 = 1) : 0 ≤ x.2 ∧ x.2 < (T.length : Int) := by
  by_cases hc : x.2 < 0 ∨ (T.length : Int) ≤ x.2
  · have e : tat T x.2 = 0 := by unfold tat; rw [if_pos hc]
    unfold shwS at h
    rw [if_neg h1, e] at h
    split at h
    · simp at h
    · split at h
      · simp at h
      · cases h
  · omega
theorem tat_in {T : List Int} {i : Int} (h0 : 0 ≤ i) (h1 : i < (T.length : Int)) : ∃ k : Nat, i = k ∧ ∃ hk : k < T.length, tat T i = T[k] := by
  refine ⟨i.toNat, by omega, by omega, ?_⟩
  unfold tat
  rw [if_neg (by omega)]
  simp [List.getD, show i.toNat < T.length by omega]
attribute [local go_sem ↓] ld45_is
theorem columns_any {W : World} (hF : Flds W) {q : Qy} {a : Qa} (hq : QIn W q a) {pT : Option Addr} {nT cT : Nat} {T : List Int} (hT : Lies kI W pT T) (hn : T.length = nT) (hs : ∀ x ∈ q.sh, shwS x T = true) : Calls Tryz.prog 44 #[qV q a, .slice pT nT cT] W fun e w' => ∃ p c, e = .returned (.slice p (q.by'.length + q.sh.length) c) ∧ Rw kI W w' (.slice p (q.by'.length + q.sh.length) c) (q.by'.length + q.sh.length) (colS q T) := by
  obtain ⟨o1, ho1⟩ : ∃ o : Obj, o = .cells #[.slice a.pN q.nodes.length a.cN, .int .i64 q.wh, .slice a.pB q.by'.length a.cB, .slice a.pS q.sh.length a.cS, .slice a.pO q.ords.length a.cO, .int .i64 q.lim] 27 := ⟨_, rfl⟩
  obtain ⟨W1, hW1⟩ : ∃ X, X = W.alloc o1 := ⟨_, rfl⟩
  have hsz : W.heap.size < W1.heap.size := by rw [hW1]; simp
  have hB1 : Below W.heap.size W W1 := by rw [hW1]; exact Below.a1 W o1
  have hx : ∀ i, W1.cell? ⟨W.heap.size, i, none⟩ = (#[.slice a.pN q.nodes.length a.cN, .int .i64 q.wh, .slice a.pB q.by'.length a.cB, .slice a.pS q.sh.length a.cS, .slice a.pO q.ords.length a.cO, .int .i64 q.lim] : Array Value)[i]? := fun i => by rw [hW1, ho1, World.cell?_alloc_mark]
  have x2 : W1.cell? ⟨W.heap.size, 2, none⟩ = some (.slice a.pB q.by'.length a.cB) := hx 2
  have X3 : Hid (∀ X, Below W1.heap.size W1 X → X.cell? ⟨W.heap.size, 3, none⟩ = some (.slice a.pS q.sh.length a.cS)) := fun X h => (h.cell (p := ⟨W.heap.size, 3, none⟩) hsz).trans (hx 3)
  have HF := hide (hF.below hB1); have HQ := hide (hq.below hB1); have HT := hide (hT.below hB1); have HN := hide hn; have HS := hide hs; have HB1 := hide hB1
  have hb1 := hq.nb
  have hb2 := hq.ns
  obtain ⟨nB, hnB⟩ : ∃ n, n = q.by'.length := ⟨_, rfl⟩
  obtain ⟨nS, hnS⟩ : ∃ n, n = q.sh.length := ⟨_, rfl⟩
  have HNB := hide hnB; have HNS := hide hnS
  unfold qV
  rw [← hnB, ← hnS] at ho1 ⊢
  simp only [← hnB, ← hnS] at x2 X3 hb1 hb2
  clear hx hF hq hT hn hs hB1 hnB hnS
  go_enter Tryz.func44, Tryz.ntmps44
  go_upto_region 2 with fail
  rw [← ho1, ← hW1]
  clear ho1 hW1 o1
  go_wp2_with fail
  have HR0 : Hid (Rw kI W1 W1 (.slice none 0 0) 0 []) := Rw.nil W1
  go_loopw [5, 15] (fun v5 v15 wr => ∃ (k : Nat) (p : Option Addr) (c : Nat), v15 = .int .i64 k ∧ k ≤ nB ∧ v5 = .slice p k c ∧ Hid (Rw kI W1 wr (.slice p k c) k ((q.by'.take k).map fldT'))) (fun _ v15 _ => nB - (intOf v15).toNat)
  case atStart => exact ⟨0, none, 0, rfl, by omega, rfl, unhide HR0⟩
  case round =>
    obtain ⟨k, p, c, rfl, hk, rfl, hrel⟩ := hrel
    by_cases hlt : k < nB
    · have hkl : k < q.by'.length := by rw [← unhide HNB]; exact hlt
      obtain ⟨b, off, e1, hbl, hr⟩ := (unhide HQ).b.2 k hkl
      obtain ⟨x, hxx⟩ : ∃ x, x = q.by'[k] := ⟨_, rfl⟩
      rw [← hxx] at hr
      have hc := ((unhide hrel).bel.cell (p := ⟨b, off + k * kI.s + 0, none⟩) hbl).trans (hr 0 (.int .i64 x) rfl)
      simp only [kI, Nat.mul_one, Nat.add_zero] at hc
      have htk : Hid ((q.by'.take (k + 1)).map fldT' = (q.by'.take k).map fldT' ++ [fldT' x]) := by
        show _ = _
        rw [List.take_succ_eq_append_getElem hkl, List.map_append, ← hxx]; rfl
      have hkn : (k : Int) < (nB : Int) := by omega
      have d := hide (field_any ((unhide HF).below (unhide hrel).bel) x)
      obtain ⟨nm, hnm⟩ : ∃ v, v = (fldS x).1 := ⟨_, rfl⟩
      obtain ⟨tx, htx⟩ : ∃ v, v = (fldS x).2 := ⟨_, rfl⟩
      rw [← hnm, ← htx] at d
      have HTX : Hid (fldT' x = tx) := htx.symm
      rw [e1]
      clear hr hxx hkl hbl hnm htx
      go_wp2_with fail
      refine (unhide d).mono ?_
      rintro e w1 ⟨rfl, m, hw⟩
      obtain ⟨p8, c8, w8, r8, o8⟩ := ((unhide hrel).drewN m).put kI_ok tx #[.int .i64 tx] rfl 23 (by omega) (nat_bound (c := 26400000000000) (by omega) (by decide))
      rw [← hw] at r8
      have r8 : (Builtin.append_ #[23, 23] 23 #[.slice p k c, .slice (some ⟨w1.heap.size, 0, none⟩) 1 1]).run Tryz.prog (w1.alloc (.cells #[.int .i64 tx] 3)) = .ok (.slice p8 (k + 1) c8) w8 := r8
      have HR8 := hide r8; have HO8 := hide o8
      clear hw r8 o8
      go_wp2_with (at_builtin; refine wpList_append_run rfl _ _ 23 rfl _ _ _ _ rfl rfl (unhide HR8) ?_)
      refine ⟨⟨k + 1, p8, c8, by go_num, by omega, rfl, ?_⟩, by simp [intOf]; omega⟩
      show Rw _ _ _ _ _ _
      rw [unhide htk, unhide HTX]
      exact unhide HO8
    · have hkn : k = nB := by omega
      subst hkn
      have x3 := unhide X3 _ (unhide hrel).bel
      have hrel2 : Hid (Rw kI W1 wr (.slice p k c) (k + 0) (q.by'.map fldT' ++ ((q.sh.take 0).map (colT T)))) := by
        have := unhide hrel
        rw [List.take_of_length_le (by rw [← unhide HNB]; exact Nat.le_refl _)] at this
        show Rw _ _ _ _ _ _
        rw [List.take_zero, List.map_nil, List.append_nil]
        exact this
      clear hrel
      go_wp2_with fail
      go_loopw [5, 32] (fun v5 v32 wr => ∃ (i : Nat) (p : Option Addr) (c : Nat), v32 = .int .i64 i ∧ i ≤ nS ∧ v5 = .slice p (k + i) c ∧ Hid (Rw kI W1 wr (.slice p (k + i) c) (k + i) (q.by'.map fldT' ++ ((q.sh.take i).map (colT T))))) (fun _ v32 _ => nS - (intOf v32).toNat)
      case atStart => exact ⟨0, p, c, rfl, by omega, rfl, unhide hrel2⟩
      case round =>
        obtain ⟨i, p, c, rfl, hi, rfl, hrel⟩ := hrel
        by_cases hlt : i < nS
        · have hkl : i < q.sh.length := by rw [← unhide HNS]; exact hlt
          obtain ⟨b, off, e1, hbl, hr⟩ := (unhide HQ).s.2 i hkl
          obtain ⟨x, hxx⟩ : ∃ x, x = q.sh[i] := ⟨_, rfl⟩
          rw [← hxx] at hr
          have hB := (unhide hrel).bel
          have l1 := run_ld45 (w := wr) (b := b) (o := off + i * 2) (x := x) (fun j u hu => (hB.cell (p := ⟨b, off + i * 2 + j, none⟩) hbl).trans (hr j u hu))
          have htk : Hid (q.by'.map fldT' ++ ((q.sh.take (i + 1)).map (colT T)) = (q.by'.map fldT' ++ ((q.sh.take i).map (colT T))) ++ [colT T x]) := by
            show _ = _
            rw [List.take_succ_eq_append_getElem hkl, List.map_append, ← hxx, List.append_assoc]; rfl
          have hkn : (i : Int) < (nS : Int) := by omega
          have hsx := hide (unhide HS x (by rw [hxx]; exact List.getElem_mem hkl))
          obtain ⟨x1, x2⟩ := x
          have HR1 := hide ((unhide hrel).below (Below.a1 wr (.cells #[.int .i64 x1, .int .i64 x2] 56)))
          simp only at l1
          rw [e1]
          clear hr hxx hkl
          by_cases hx1 : x1 = 1
          · subst hx1
            obtain ⟨p8, c8, w8, r8, o8⟩ := (unhide HR1).put kI_ok 1 #[.int .i64 1] rfl 23 (by omega) (nat_bound (c := 26400000000000) (by omega) (by decide))
            have r8 : (Builtin.append_ #[23, 23] 23 #[.slice p (k + i) c, .slice (some ⟨(wr.alloc (.cells #[.int .i64 1, .int .i64 x2] 56)).heap.size, 0, none⟩) 1 1]).run Tryz.prog ((wr.alloc (.cells #[.int .i64 1, .int .i64 x2] 56)).alloc (.cells #[.int .i64 1] 3)) = .ok (.slice p8 (k + i + 1) c8) w8 := r8
            rw [World.size_alloc] at r8
            have HR8 := hide r8; have HO8 := hide o8
            clear r8 o8
            go_wp2_with (at_builtin; refine wpList_append_run rfl _ _ 23 rfl _ _ _ _ rfl rfl (unhide HR8) ?_)
            refine ⟨⟨i + 1, p8, c8, by go_num, by omega, rfl, ?_⟩, by simp [intOf]; omega⟩
            show Rw _ _ _ _ _ _
            rw [unhide htk]
            exact unhide HO8
          · have hx1' := beqF hx1
            obtain ⟨h2, h3⟩ := shw_in (unhide hsx) hx1
            obtain ⟨y, rfl, hy, hty⟩ := tat_in (T := T) h2 h3
            obtain ⟨bT, oT, eT1, hTl, hTr⟩ := (unhide HT).2 y hy
            obtain ⟨tx, htx⟩ : ∃ v, v = T[y] := ⟨_, rfl⟩
            rw [← htx] at hTr hty
            have hct : ∀ o, (wr.alloc o).cell? ⟨bT, oT + y, none⟩ = some (.int .i64 tx) := fun o => by
              have h9 := (((hB.alloc hB.size o).cell (p := ⟨bT, oT + y * kI.s + 0, none⟩) hTl)).trans (hTr 0 (.int .i64 tx) rfl)
              simpa [kI] using h9
            have hyn : (y : Int) < (nT : Int) := by have := unhide HN; omega
            have HTX : Hid (colT T ((x1, (y : Int))) = tx) := by show _ = _; unfold colT; rw [if_neg hx1]; exact hty
            rw [eT1]
            obtain ⟨p8, c8, w8, r8, o8⟩ := (unhide HR1).put kI_ok tx #[.int .i64 tx] rfl 23 (by omega) (nat_bound (c := 26400000000000) (by omega) (by decide))
            have r8 : (Builtin.append_ #[23, 23] 23 #[.slice p (k + i) c, .slice (some ⟨(wr.alloc (.cells #[.int .i64 x1, .int .i64 y] 56)).heap.size, 0, none⟩) 1 1]).run Tryz.prog ((wr.alloc (.cells #[.int .i64 x1, .int .i64 y] 56)).alloc (.cells #[.int .i64 tx] 3)) = .ok (.slice p8 (k + i + 1) c8) w8 := r8
            rw [World.size_alloc] at r8
            have HR8 := hide r8; have HO8 := hide o8
            clear r8 o8 hTr hty htx hTl hy h2 h3
            go_wp2_with (at_builtin; refine wpList_append_run rfl _ _ 23 rfl _ _ _ _ rfl rfl (unhide HR8) ?_)
            refine ⟨⟨i + 1, p8, c8, by go_num, by omega, rfl, ?_⟩, by simp [intOf]; omega⟩
            show Rw _ _ _ _ _ _
            rw [unhide htk, unhide HTX]
            exact unhide HO8
        · have hin : i = nS := by omega
          subst hin
          go_wp2_with fail
          go_ret
          refine ⟨p, c, rfl, ?_⟩
          have h9 := (unhide hrel).up (unhide HB1)
          rw [List.take_of_length_le (by rw [← unhide HNS]; exact Nat.le_refl _)] at h9
          exact h9
end Go.Proofs.YtbenciieenbmeaaGreatDoor
/- typing: Check 16. -/
namespace Go.Proofs.YtbenciieenbmeaaGreatDoor
open Go Go.Shelf Go.ChangeShapes Go.WideShapes Go.ChangeAt Go.RowKit Go.Maps
set_option linter.unusedVariables false
set_option maxRecDepth 100000
set_option maxHeartbeats 4000000
/-- does a query mean something? -/
def okQ (q : Qy) : Bool := (ptsS q (tyL q.nodes)).all id
/-- what Check answers: the columns, and the error -/
def chkL (q : Qy) : List Int := if okQ q then colS q (tyL q.nodes) else []
def chkE (q : Qy) : Int := if okQ q then 0 else 140
def ld32 (x : Value) : Sem Value := Instr.loadAt 27 x
theorem ld32_is (x : Value) : Instr.loadAt 27 x = ld32 x := rfl
theorem size32 : (Tryz.prog.info? 27).map (·.size) = some 6 := by kernel_rfl
def qC (q : Qy) (a : Qa) : List Value := [.slice a.pN q.nodes.length a.cN, .int .i64 q.wh, .slice a.pB q.by'.length a.cB, .slice a.pS q.sh.length a.cS, .slice a.pO q.ords.length a.cO, .int .i64 q.lim]
theorem run_ld32 {w : World} {b o : Nat} {q : Qy} {a : Qa} (h : w.rangeAt b o (qC q a)) : (ld32 (.pointer (some ⟨b, o, none⟩))).run Tryz.prog w = .ok (qV q a) w :=
  run_loadAt_mid (P := Tryz.prog) w b o 27 (qC q a) _ h Tryz.underlying27 rfl size32
theorem JoinV.cases {W w' : World} {B : List Bool} {v : Value} (h : JoinV W B v w') : Below W.heap.size W w' ∧ Calls Tryz.prog 42 #[v, .iface 35 (.int .i64 140)] w' fun e w2 => e = .returned (.bool (!B.all id)) ∧ w2 = w' := by
  refine ⟨h.1, ?_⟩
  have h2 := h.2
  by_cases hb : B.all id = true
  · rw [if_pos hb] at h2
    rw [hb, h2]
    exact eIs_nil w'
  · rw [if_neg hb] at h2
    obtain ⟨j, b, m, c, hv, h3, h4, h5⟩ := h2
    have hb' : B.all id = false := by simpa using hb
    rw [hb', hv]
    exact eIs_join h3 h4 h5
theorem ok_shown {q : Qy} {T : List Int} (h : (ptsS q T).all id = true) : ∀ x ∈ q.sh, shwS x T = true := by
  unfold ptsS at h
  simp only [List.all_cons, List.all_nil, id_eq, Bool.and_eq_true] at h
  exact List.all_eq_true.1 h.2.2.2.2.1
attribute [local go_sem ↓] ld32_is
theorem check_any {W : World} (hF : Flds W) (hM : Mon W) (hR : Recs W) {q : Qy} {a : Qa} (hq : QIn W q a) : Calls Tryz.prog 29 #[qV q a] W fun e w' => ∃ p n c, e = .returned (.tuple #[.slice p n c, .int .i64 (chkE q)]) ∧ Rw kI W w' (.slice p n c) n (chkL q) := by
  obtain ⟨W1, hW1⟩ : ∃ X, X = W.alloc (.cells (qC q a).toArray 27) := ⟨_, rfl⟩
  have hsz : W.heap.size < W1.heap.size := by rw [hW1]; simp
  have hB1 : Below W.heap.size W W1 := by rw [hW1]; exact Below.a1 W _
  have hx : W1.rangeAt W.heap.size 0 (qC q a) := by rw [hW1]; exact new_range W (qC q a) 27
  have x0 : W1.cell? ⟨W.heap.size, 0, none⟩ = some (.slice a.pN q.nodes.length a.cN) := hx 0 _ rfl
  have L32 : Hid (∀ X, Below W1.heap.size W1 X → (ld32 (.pointer (some ⟨W.heap.size, 0, none⟩))).run Tryz.prog X = .ok (qV q a) X) := fun X h => run_ld32 (fun j u hu => (h.cell (p := ⟨W.heap.size, 0 + j, none⟩) hsz).trans (hx j u hu))
  have d1 := hide (typesOf_any (c := a.cN) (hF.below hB1) (hM.below hB1) (hR.below hB1) rfl (hq.below hB1).n hq.nn)
  have d2 : Hid (∀ (X : World) (p : Option Addr) (c : Nat), Rw kI W1 X (.slice p q.nodes.length c) q.nodes.length (tyL q.nodes) → Calls Tryz.prog 43 #[qV q a, .slice p q.nodes.length c] X fun e w' => ∃ v, e = .returned v ∧ JoinV X (ptsS q (tyL q.nodes)) v w') := fun X p c h => faults_any ((hq.below hB1).below h.bel) (h.lies kI_ok) h.len hq.nn
  have d3 : Hid (∀ (X Y : World) (p : Option Addr) (c : Nat), Rw kI W1 X (.slice p q.nodes.length c) q.nodes.length (tyL q.nodes) → Below X.heap.size X Y → okQ q = true → Calls Tryz.prog 44 #[qV q a, .slice p q.nodes.length c] Y fun e w' => ∃ p c, e = .returned (.slice p (q.by'.length + q.sh.length) c) ∧ Rw kI Y w' (.slice p (q.by'.length + q.sh.length) c) (q.by'.length + q.sh.length) (colS q (tyL q.nodes))) := fun X Y p c h hY hok => columns_any ((hF.below hB1).below (h.below hY).bel) ((hq.below hB1).below (h.below hY).bel) ((h.below hY).lies kI_ok) h.len (ok_shown hok)
  have HB1 := hide hB1
  have hqv : qV q a = .agg (qC q a).toArray := rfl
  have HQV := hide hqv
  have hE0 : Hid (okQ q = true → chkE q = 0 ∧ chkL q = colS q (tyL q.nodes)) := fun h => ⟨by unfold chkE; rw [if_pos h], by unfold chkL; rw [if_pos h]⟩
  have hE1 : Hid (okQ q = false → chkE q = 140 ∧ chkL q = []) := fun h => ⟨by unfold chkE; rw [h]; rfl, by unfold chkL; rw [h]; rfl⟩
  obtain ⟨ok, hok⟩ : ∃ b, b = okQ q := ⟨_, rfl⟩
  have HOK := hide hok
  have hpk : Hid ((ptsS q (tyL q.nodes)).all id = ok) := hok.symm
  obtain ⟨nN, hnN⟩ : ∃ n, n = q.nodes.length := ⟨_, rfl⟩
  rw [← hnN] at d1 d2 d3 x0
  have hW1' : W1 = W.alloc (.cells #[.slice a.pN nN a.cN, .int .i64 q.wh, .slice a.pB q.by'.length a.cB, .slice a.pS q.sh.length a.cS, .slice a.pO q.ords.length a.cO, .int .i64 q.lim] 27) := by rw [hW1, hnN]; rfl
  have hgo : qV q a = .agg #[.slice a.pN nN a.cN, .int .i64 q.wh, .slice a.pB q.by'.length a.cB, .slice a.pS q.sh.length a.cS, .slice a.pO q.ords.length a.cO, .int .i64 q.lim] := by rw [hnN]; rfl
  obtain ⟨qq, hqq⟩ : ∃ v, v = qV q a := ⟨_, rfl⟩
  rw [← hqq] at L32 d2 d3
  rw [hgo]
  clear hF hM hR hq hx hB1 hqv hok hqq hgo hW1 hnN HQV
  go_enter Tryz.func29, Tryz.ntmps29
  go_upto_region 1 with fail
  rw [← hW1']
  clear hW1'
  go_wp2_with fail
  refine (unhide d1).mono ?_
  rintro e w1 ⟨p1, c1, rfl, hr1⟩
  have HR1 := hide hr1
  have l1 := unhide L32 _ hr1.bel
  clear hr1
  go_wp2_with fail
  refine (unhide d2 _ _ _ (unhide HR1)).mono ?_
  rintro e w2 ⟨v2, rfl, hj⟩
  obtain ⟨hB2, hI2⟩ := hj.cases
  rw [unhide hpk] at hI2
  have HB2 := hide hB2
  have HI2 := hide hI2
  have l2 := unhide L32 _ ((unhide HR1).below hB2).bel
  clear hj hB2 hI2
  go_wp2_with fail
  refine (unhide HI2).mono ?_
  rintro e w3 ⟨rfl, hw⟩
  rw [hw]; clear hw w3
  cases ok with
  | false =>
    go_wp2_with fail
    go_ret2
    have h9 := unhide hE1 (unhide HOK).symm
    rw [h9.1, h9.2]
    refine ⟨none, 0, 0, rfl, ?_⟩
    exact ⟨⟨by simp [Kd.flat], .inl ⟨rfl, rfl⟩⟩, (unhide HB1).trans (((unhide HR1).below (unhide HB2)).bel.mono (unhide HB1).size), rfl⟩
  | true =>
    have d4 := hide (unhide d3 _ _ _ _ (unhide HR1) (unhide HB2) (unhide HOK).symm)
    go_wp2_with fail
    refine (unhide d4).mono ?_
    rintro e w4 ⟨p4, c4, rfl, hr4⟩
    have HR4 := hide hr4
    clear hr4
    go_wp2_with fail
    go_ret2
    have h9 := unhide hE0 (unhide HOK).symm
    rw [h9.1, h9.2]
    refine ⟨p4, _, c4, rfl, ?_⟩
    exact (unhide HR4).up ((unhide HB1).trans (((unhide HR1).below (unhide HB2)).bel.mono (unhide HB1).size))
end Go.Proofs.YtbenciieenbmeaaGreatDoor
