import Derived.Test.YtbenciieenbmeaaGreatDoorU31
import Derived.Test.YtbenciieenbmeaaGreatDoorW01
import Derived.Test.YtbenciieenbmeaaGreatDoorRows
import Derived.OpenShut
import Derived.ChangeSame
import Derived.Stop.LaidErr
import Derived.Deep.Slices
import Derived.Deep.Strs
import Derived.SizedLaws
import Derived.ChangeMaps5
/- the law's first 9. -/
namespace Go.Proofs.YtbenciieenbmeaaGreatDoor
open Go Go.Shelf Go.ChangeShapes Go.WideShapes Go.ChangeAt Go.RowKit Go.Maps Go.Sort
set_option linter.unusedVariables false
set_option maxRecDepth 100000
set_option maxHeartbeats 4000000
theorem lies_bk {α : Type} {K : Kd α} (hK : KdOK K) {w : World} {g : Nat} {t : TypeId} {L : List α} (h : Bk w g t (K.flat L)) : Lies K w (some ⟨g, 0, none⟩) L := by
  refine ⟨(fun e => by cases e), fun i hi => ⟨g, 0, rfl, h.lt, ?_⟩⟩
  obtain ⟨e1, e2⟩ := flat_part hK L i hi
  rw [e1] at h
  have := h.range
  rw [e2] at this
  rw [Nat.zero_add]
  exact this
def a9 (n : Nat) : Qa := ⟨some ⟨n + 1 + 1, 0, none⟩, 1, some ⟨n, 0, none⟩, 1, some ⟨n + 1, 0, none⟩, 2, none, 0⟩
theorem blk_at {W : World} {o : Obj} {n : Nat} (h : W.heap.size = n) : (W.alloc o).heap[n]? = some o := by rw [← h]; exact heap_new _ _
section
attribute [local go_sem ↓] ld32_is ldC_is
theorem first9 {W : World} (hFl : Flds W) (hM : Mon W) (hRc : Recs W) (hX : Mx W) (h6 : 6 ≤ W.heap.size) : Calls Tryz.prog 9 #[] W fun e w' => e = .returned (.bool true) ∧ Below W.heap.size W w' := by
  obtain ⟨X, hXe⟩ : ∃ X, X = ((((W.alloc (.cells #[.int .i64 6] 3)).alloc (.cells #[.int .i64 1, .int .i64 (-1), .int .i64 2, .int .i64 0] 56)).alloc (.cells #[.int .i64 16, .int .i64 (-1), .int .i64 (-1), .int .i64 7, .int .i64 0, .string ⟨#[]⟩] 51)).alloc (.cells #[.slice (some ⟨W.heap.size + 1 + 1, 0, none⟩) 1 1, .int .i64 (-1), .slice (some ⟨W.heap.size, 0, none⟩) 1 1, .slice (some ⟨W.heap.size + 1, 0, none⟩) 2 2, .slice none 0 0, .int .i64 (-1)] 27)) := ⟨_, rfl⟩
  have hBX : Below W.heap.size W X := by rw [hXe]; exact Below.a4 W _ _ _ _
  have hXs : X.heap.size = W.heap.size + 4 := by rw [hXe]; simp
  have b0 : Bk X W.heap.size 3 (kI.flat q9.by') := by
    show X.heap[_]? = _
    rw [hXe, Below.heap_alloc _ _ _ (by simp; omega), Below.heap_alloc _ _ _ (by simp; omega), Below.heap_alloc _ _ _ (by simp)]
    exact heap_new _ _
  have b1 : Bk X (W.heap.size + 1) 56 (kG.flat q9.sh) := by
    show X.heap[_]? = _
    rw [hXe, Below.heap_alloc _ _ _ (by simp), Below.heap_alloc _ _ _ (by simp)]
    exact blk_at (by simp)
  have b2 : Bk X (W.heap.size + 1 + 1) 51 (kN.flat q9.nodes) := by
    show X.heap[_]? = _
    rw [hXe, Below.heap_alloc _ _ _ (by simp)]
    exact blk_at (by simp)
  have b3 : Bk X (W.heap.size + 1 + 1 + 1) 27 (qC q9 (a9 W.heap.size)) := by
    show X.heap[_]? = _
    rw [hXe]
    exact blk_at (by simp)
  have l27 : (ld32 (.pointer (some ⟨W.heap.size + 1 + 1 + 1, 0, none⟩))).run Tryz.prog X = .ok (.agg #[.slice (some ⟨W.heap.size + 1 + 1, 0, none⟩) 1 1, .int .i64 (-1), .slice (some ⟨W.heap.size, 0, none⟩) 1 1, .slice (some ⟨W.heap.size + 1, 0, none⟩) 2 2, .slice none 0 0, .int .i64 (-1)]) X := run_ld32 (q := q9) (a := a9 W.heap.size) (fun j u hu => by rw [b3.cell, Nat.zero_add]; exact hu)
  obtain ⟨Y, hYe⟩ : ∃ Y, Y = X.alloc (.cells (kR.flat R9).toArray 39) := ⟨_, rfl⟩
  have hXY : Below X.heap.size X Y := by rw [hYe]; exact Below.a1 X _
  have hBY : Below W.heap.size W Y := hBX.trans (hXY.mono hBX.size)
  have b4 : Bk Y X.heap.size 39 (kR.flat R9) := by show Y.heap[_]? = _; rw [hYe]; exact heap_new _ _
  have hS : ScIn Y q9 (a9 W.heap.size) (some ⟨X.heap.size, 0, none⟩) R9 := {
    fl := hFl.below hBY, mon := hM.below hBY, rc := hRc.below hBY, mx := hX.below hBY (by omega), six := by have := hBY.size; omega
    qi := ⟨(lies_bk kN_ok b2).below hXY, (lies_bk kI_ok b0).below hXY, (lies_bk kG_ok b1).below hXY, ⟨fun _ => rfl, fun k hk => by cases hk⟩, by decide, by decide, by decide, by decide⟩
    np := fun b o e => by
      have e2 : b = W.heap.size + 1 + 1 := by cases e; rfl
      have := hXY.size
      omega
    nn := by decide, nb := by decide, ns := by decide, no := by decide
    nd := fun x hx => by rw [List.mem_singleton.1 hx]; exact ⟨⟨by decide, by decide⟩, by decide⟩
    sI := fun x hx => by
      have h2 : x = (1, -1) ∨ x = (2, 0) := by simpa [q9] using hx
      rcases h2 with rfl | rfl <;> exact ⟨⟨by decide, by decide⟩, ⟨by decide, by decide⟩⟩
    lI := ⟨by decide, by decide⟩
    rl := lies_bk kR_ok b4, rn := by decide
    ro := fun r hr => by
      have h2 : r = r9 ⟨#[66]⟩ 2 ∨ r = r9 ⟨#[65]⟩ 3 ∨ r = r9 ⟨#[66]⟩ 4 := by simpa [R9] using hr
      rcases h2 with rfl | rfl | rfl <;> exact ⟨⟨by decide, by decide⟩, ⟨by decide, by decide⟩, ⟨by decide, by decide⟩, ⟨by decide, by decide⟩, ⟨by decide, by decide⟩, by decide, by decide, by decide, by decide⟩ }
  have D20 := scan_any (cR := 3) hS
  have D : Hid (Calls Tryz.prog 20 #[.agg #[.slice (some ⟨W.heap.size + 1 + 1, 0, none⟩) 1 1, .int .i64 (-1), .slice (some ⟨W.heap.size, 0, none⟩) 1 1, .slice (some ⟨W.heap.size + 1, 0, none⟩) 2 2, .slice none 0 0, .int .i64 (-1)], .slice (some ⟨X.heap.size, 0, none⟩) 3 3] Y fun e w' => ∃ pT cT b off cR, e = .returned (.tuple #[.agg #[.slice pT 3 cT, .slice (some ⟨b, off, none⟩) 2 cR], .int .i64 0]) ∧ Below W.heap.size W w' ∧ TblOut Y.heap.size w' (.agg #[.slice pT 3 cT, .slice (some ⟨b, off, none⟩) 2 cR]) [2, 1, 5] [lA, lB]) := by
    refine Calls.mono (show Calls Tryz.prog 20 _ Y _ from D20) fun e w' ho => ?_
    obtain ⟨v, T, LL, he, ht, hsc⟩ := ho.tbl
    obtain ⟨e1, e2⟩ := scT9 hsc
    subst e1 e2
    rw [scE9] at he
    have hb := ho.1
    have ht2 := ht
    obtain ⟨pT, cT, pR, cR, ts, ev, h2, h4, h6, h7⟩ := ht
    obtain ⟨b, off, ep, _⟩ := h4.1.2 0 (by rw [h6]; decide)
    subst ep
    subst ev
    exact ⟨pT, cT, b, off, cR, he, hBY.trans (hb.mono hBY.size), ht2⟩
  have HY : Hid (Y = X.alloc (.cells #[.int .i64 0, .int .i64 0, .int .i64 5, .int .i64 0, .string ⟨#[]⟩, .string ⟨#[66]⟩, .int .i64 2, .string ⟨#[]⟩, .string ⟨#[]⟩, .int .i64 0, .int .i64 0, .int .i64 5, .int .i64 0, .string ⟨#[]⟩, .string ⟨#[65]⟩, .int .i64 3, .string ⟨#[]⟩, .string ⟨#[]⟩, .int .i64 0, .int .i64 0, .int .i64 5, .int .i64 0, .string ⟨#[]⟩, .string ⟨#[66]⟩, .int .i64 4, .string ⟨#[]⟩, .string ⟨#[]⟩] 39)) := hYe
  have HXE := hide hXe
  clear hFl hM hRc hX h6 hXe hBX hXs b0 b1 b2 b3 hYe hXY hBY b4 hS D20
  go_enter Tryz.func9, Tryz.ntmps9
  go_upto_region 2 with fail
  rw [← unhide HXE]
  go_wp2_with fail
  rw [← unhide HY]
  refine (unhide D).mono ?_
  rintro e w1 ⟨pT, cT, b, off, cR, rfl, hb, ht⟩
  obtain ⟨Z, hZ⟩ : ∃ Z, Z = w1.alloc (.cells #[.slice pT 3 cT, .slice (some ⟨b, off, none⟩) 2 cR] 34) := ⟨_, rfl⟩
  have hBZ : Below w1.heap.size w1 Z := by rw [hZ]; exact Below.a1 w1 _
  have bz : Bk Z w1.heap.size 34 [.slice pT 3 cT, .slice (some ⟨b, off, none⟩) 2 cR] := by show Z.heap[_]? = _; rw [hZ]; exact heap_new _ _
  have z0 : Z.cell? ⟨w1.heap.size, 0, none⟩ = some (.slice pT 3 cT) := bz.cell 0
  have z1 : Z.cell? ⟨w1.heap.size, 1, none⟩ = some (.slice (some ⟨b, off, none⟩) 2 cR) := bz.cell 1
  have hT := ht
  obtain ⟨pT', cT', pR', cR', ts, ev, ⟨h2, _⟩, ⟨h4, _⟩, h6, h7⟩ := ht
  have epR : pR' = some ⟨b, off, none⟩ := by simp at ev; exact ev.2.1.symm
  subst epR
  have TR := tbr_of hBZ h2 h4 h6 (fun i hi => by obtain ⟨p, c, e1, e2, _⟩ := h7 i hi; exact ⟨p, c, e1, e2⟩)
  obtain ⟨ba, oa, pa, ca, ea, ra, xa⟩ := TR.r 0 lA rfl
  obtain ⟨bb, ob, pb, cb, eb, rb, xb⟩ := TR.r 1 lB rfl
  cases ea
  cases eb
  obtain ⟨bA, oA, eA, gA⟩ := xa 0 _ rfl
  obtain ⟨bB, oB, eB, gB⟩ := xb 1 _ rfl
  obtain ⟨bC, oC, eC, gC⟩ := xb 2 _ rfl
  subst eA
  subst eB
  cases eC
  have ra := ra Z (Below.refl _ _)
  have rb := rb Z (Below.refl _ _)
  have gA := gA Z (Below.refl _ _)
  have gB := gB Z (Below.refl _ _)
  have gC := gC Z (Below.refl _ _)
  have HZ := hide hZ
  have HB : Hid (Below W.heap.size W Z) := hb.trans (hBZ.mono hb.size)
  have ra' : Z.cell? ⟨b, off, none⟩ = some (.slice (some ⟨bA, oA, none⟩) 3 ca) := ra
  have rb' : Z.cell? ⟨b, off + 1, none⟩ = some (.slice (some ⟨bB, oB, none⟩) 3 cb) := rb
  have gA' : (ldC (.pointer (some ⟨bA, oA, none⟩))).run Tryz.prog Z = .ok (.agg #[.int .i64 2, .int .i64 0, .string ⟨#[65]⟩]) Z := gA
  have gB' : (ldC (.pointer (some ⟨bB, oB + 3, none⟩))).run Tryz.prog Z = .ok (.agg #[.int .i64 1, .int .i64 2, .string ⟨#[]⟩]) Z := gB
  have gC' : (ldC (.pointer (some ⟨bB, oB + 6, none⟩))).run Tryz.prog Z = .ok (.agg #[.int .i64 5, .int .i64 6, .string ⟨#[]⟩]) Z := gC
  have q1 := eg45
  have q2 := eq45 2 0 ⟨#[65]⟩
  have q3 := eq45 1 2 ⟨#[]⟩
  have q4 := eq45 5 6 ⟨#[]⟩
  clear ra rb gA gB gC TR h2 h4 h6 h7 hT ev hZ hBZ bz hb D HY HXE l27 xa xb
  go_upto_region 3 with fail
  rw [← unhide HZ]
  go_wp2_with fail
  go_ret
  exact ⟨rfl, unhide HB⟩
end
end Go.Proofs.YtbenciieenbmeaaGreatDoor
/- typing: what the rows say of the tables, read off. -/
namespace Go.Proofs.YtbenciieenbmeaaGreatDoor
open Go Go.ChangeShapes Go.WideShapes Go.ChangeAt Go.RowKit
set_option linter.unusedVariables false
theorem pieces {cs : List Value} {s n : Nat} (hs : 0 < s) (f : Nat → List Value) (hl : cs.length = n * s) (hf : ∀ i, i < n → (cs.drop (i * s)).take s = f i) {M : List Value} (hM : M.length = n * s) (hm : ∀ i, i < n → (M.drop (i * s)).take s = f i) : cs = M := by
  apply List.ext_getElem?
  intro j
  by_cases hj : j < n * s
  · have hi : j / s < n := Nat.div_lt_of_lt_mul (by rw [Nat.mul_comm]; exact hj)
    have hr : j % s < s := Nat.mod_lt _ hs
    have e : j = j / s * s + j % s := (Nat.div_add_mod' j s).symm
    have h1 : ((cs.drop (j / s * s)).take s)[j % s]? = cs[j]? := by
      rw [List.getElem?_take_of_lt hr, List.getElem?_drop, ← e]
    have h2 : ((M.drop (j / s * s)).take s)[j % s]? = M[j]? := by
      rw [List.getElem?_take_of_lt hr, List.getElem?_drop, ← e]
    rw [← h1, ← h2, hf _ hi, hm _ hi]
  · rw [List.getElem?_eq_none (by omega), List.getElem?_eq_none (by omega)]
theorem len2 {cs : List Value} (h : cs.length = 2) : ∃ a b, cs = [a, b] := by
  match cs, h with
  | [a, b], _ => exact ⟨a, b, rfl⟩
theorem len4 {cs : List Value} (h : cs.length = 4) : ∃ a b c d, cs = [a, b, c, d] := by
  match cs, h with
  | [a, b, c, d], _ => exact ⟨a, b, c, d, rfl⟩
section
variable {H : Type} {enc : TypeId × Value → H} {w : World} {base : Nat} {sp : Nat → Bool} {held : Bool} {fuel : Nat} {cs : List Value} {p : List MemPlace}
theorem trod55 {y : DataW H × List MemPlace} {s : List UInt8} {z : Int} (hy : y.1 = .agg [.lit (.string s), .lit (.int .i64 z)]) (h : DataW.trod enc Tryz.prog w base sp held fuel 206 cs = some y) : cs = [.string ⟨s.toArray⟩, .int .i64 z] := by
  obtain ⟨y0, y1, n, rfl, hl, h0, h1⟩ := trod_struct2 Tryz.underlying206 h
  have c9 : Tryz.prog.cellsOf 9 = 1 := by kernel_rfl
  have c3 : Tryz.prog.cellsOf 3 = 1 := by kernel_rfl
  have c55 : Tryz.prog.cellsOf 206 = 2 := by kernel_rfl
  obtain ⟨s', e0, rfl, _⟩ := DataW.trod_string Tryz.underlying9 h0
  obtain ⟨z', e1, rfl, _⟩ := DataW.trod_int Tryz.underlying3 h1
  simp at hy
  rw [c55] at hl
  obtain ⟨a, b, rfl⟩ := len2 hl
  simp [c9, c3] at e0 e1
  rw [e0, e1, hy.2, ← hy.1]
theorem trod144 {y : DataW H × List MemPlace} {a b c d : Int} (hy : y.1 = .agg [.lit (.int .i64 a), .lit (.int .i64 b), .lit (.int .i64 c), .lit (.int .i64 d)]) (h : DataW.trod enc Tryz.prog w base sp held fuel 240 cs = some y) : cs = [.int .i64 a, .int .i64 b, .int .i64 c, .int .i64 d] := by
  obtain ⟨xs, n, _, rfl, hl, hlen, hf⟩ := DataW.trod_struct Tryz.underlying240 h
  have c3 : Tryz.prog.cellsOf 3 = 1 := by kernel_rfl
  have c144 : Tryz.prog.cellsOf 240 = 4 := by kernel_rfl
  rw [c144] at hl
  match xs, hlen with
  | [y0, y1, y2, y3], _ =>
    have h0 := hf 0 _ rfl
    have h1 := hf 1 _ rfl
    have h2 := hf 2 _ rfl
    have h3 := hf 3 _ rfl
    obtain ⟨z0, e0, q0, _⟩ := DataW.trod_int Tryz.underlying3 h0
    obtain ⟨z1, e1, q1, _⟩ := DataW.trod_int Tryz.underlying3 h1
    obtain ⟨z2, e2, q2, _⟩ := DataW.trod_int Tryz.underlying3 h2
    obtain ⟨z3, e3, q3, _⟩ := DataW.trod_int Tryz.underlying3 h3
    subst q0 q1 q2 q3
    simp at hy
    obtain ⟨a, b, c, d, rfl⟩ := len4 hl
    simp [c3] at e0 e1 e2 e3
    rw [e0, e1, e2, e3, hy.1, hy.2.1, hy.2.2.1, hy.2.2.2]
end
def fldB : List (List UInt8 × Int) := fldL.map fun x => (x.1.data.toList, x.2)
theorem laidF_same : (Rows.laid_daybook_typing_fields : DataW Unit) = .agg (fldB.map fun x => .agg [.lit (.string x.1), .lit (.int .i64 x.2)]) := by kernel_rfl
theorem laidR_same : (Rows.laid_daybook_typing_reckonings : DataW Unit) = .agg (recL.map fun x => .agg [.lit (.int .i64 x.1), .lit (.int .i64 x.2.1), .lit (.int .i64 x.2.2.1), .lit (.int .i64 x.2.2.2)]) := by kernel_rfl
theorem laidM_same : (Rows.laid_daybook_day_monthDays : DataW Unit) = Lib.tabData .i64 monL := by kernel_rfl
theorem fldC_piece : ∀ i, i < 15 → (fldC.toList.drop (i * 2)).take 2 = [.string ⟨(fldB.getD i ([], 0)).1.toArray⟩, .int .i64 (fldB.getD i ([], 0)).2] := fun i hi => by
  match i, hi with
  | 0, _ => rfl
  | 1, _ => rfl
  | 2, _ => rfl
  | 3, _ => rfl
  | 4, _ => rfl
  | 5, _ => rfl
  | 6, _ => rfl
  | 7, _ => rfl
  | 8, _ => rfl
  | 9, _ => rfl
  | 10, _ => rfl
  | 11, _ => rfl
  | 12, _ => rfl
  | 13, _ => rfl
  | 14, _ => rfl
theorem recC_piece : ∀ i, i < 11 → (recC.toList.drop (i * 4)).take 4 = [.int .i64 (recL.getD i (0, 0, 0, 0)).1, .int .i64 (recL.getD i (0, 0, 0, 0)).2.1, .int .i64 (recL.getD i (0, 0, 0, 0)).2.2.1, .int .i64 (recL.getD i (0, 0, 0, 0)).2.2.2] := fun i hi => by
  match i, hi with
  | 0, _ => rfl
  | 1, _ => rfl
  | 2, _ => rfl
  | 3, _ => rfl
  | 4, _ => rfl
  | 5, _ => rfl
  | 6, _ => rfl
  | 7, _ => rfl
  | 8, _ => rfl
  | 9, _ => rfl
  | 10, _ => rfl
set_option maxRecDepth 100000 in
theorem flds_of_head {W : World} {rest : List (String × DataW Unit)} (h : laidMet Tryz.prog (("daybook/typing.fields", Rows.laid_daybook_typing_fields) :: rest) W) : Flds W := by
  obtain ⟨ps, ⟨g', t', cs, fuel, p, q, hg', ht', hvar, hd, _, _⟩, _⟩ := h
  obtain rfl := Option.some.inj (fld_no.symm.trans hg')
  obtain rfl := Option.some.inj ((show (Tryz.prog.globals[0]?).map (·.type) = some 207 by kernel_rfl).symm.trans ht')
  rw [laidF_same] at hd
  have c55 : Tryz.prog.cellsOf 206 = 2 := by kernel_rfl
  have c56 : Tryz.prog.cellsOf 207 = 30 := by kernel_rfl
  obtain ⟨xs, m, _, hx, hl, hlen, hf⟩ := DataW.trod_array Tryz.underlying207 hd
  have hx1 : xs.map (·.1) = fldB.map fun x => (DataW.agg [.lit (.string x.1), .lit (.int .i64 x.2)] : DataW Unit) := by
    have := congrArg Prod.fst hx
    simpa using this.symm
  unfold Flds
  rw [hvar]
  congr 1
  apply Array.ext'
  rw [c56] at hl
  rw [c55] at hf
  refine (pieces (s := 2) (n := 15) (by decide) (fun i => [.string ⟨(fldB.getD i ([], 0)).1.toArray⟩, .int .i64 (fldB.getD i ([], 0)).2]) (by simpa using hl) (fun i hi => ?_) (by rfl) fldC_piece)
  have h1 := hf i hi
  have hi' : i < xs.length := by omega
  rw [List.getElem?_eq_getElem hi'] at h1
  refine trod55 ?_ h1
  have h2 : (xs.map (·.1))[i]? = some xs[i].1 := by simp [hi']
  rw [hx1] at h2
  have hi2 : i < fldB.length := hi
  rw [List.getElem?_map, List.getElem?_eq_getElem hi2] at h2
  rw [List.getD_eq_getElem?_getD, List.getElem?_eq_getElem hi2]
  exact (Option.some.inj h2).symm
set_option maxRecDepth 100000 in
theorem recs_of_head {W : World} {rest : List (String × DataW Unit)} (h : laidMet Tryz.prog (("daybook/typing.reckonings", Rows.laid_daybook_typing_reckonings) :: rest) W) : Recs W := by
  obtain ⟨ps, ⟨g', t', cs, fuel, p, q, hg', ht', hvar, hd, _, _⟩, _⟩ := h
  obtain rfl := Option.some.inj (rec_no.symm.trans hg')
  obtain rfl := Option.some.inj ((show (Tryz.prog.globals[1]?).map (·.type) = some 241 by kernel_rfl).symm.trans ht')
  rw [laidR_same] at hd
  have c144 : Tryz.prog.cellsOf 240 = 4 := by kernel_rfl
  have c145 : Tryz.prog.cellsOf 241 = 44 := by kernel_rfl
  obtain ⟨xs, m, _, hx, hl, hlen, hf⟩ := DataW.trod_array Tryz.underlying241 hd
  have hx1 : xs.map (·.1) = recL.map fun x => (DataW.agg [.lit (.int .i64 x.1), .lit (.int .i64 x.2.1), .lit (.int .i64 x.2.2.1), .lit (.int .i64 x.2.2.2)] : DataW Unit) := by
    have := congrArg Prod.fst hx
    simpa using this.symm
  unfold Recs
  rw [hvar]
  congr 1
  apply Array.ext'
  rw [c145] at hl
  rw [c144] at hf
  refine (pieces (s := 4) (n := 11) (by decide) (fun i => [.int .i64 (recL.getD i (0, 0, 0, 0)).1, .int .i64 (recL.getD i (0, 0, 0, 0)).2.1, .int .i64 (recL.getD i (0, 0, 0, 0)).2.2.1, .int .i64 (recL.getD i (0, 0, 0, 0)).2.2.2]) (by simpa using hl) (fun i hi => ?_) (by rfl) recC_piece)
  have h1 := hf i hi
  have hi' : i < xs.length := by omega
  rw [List.getElem?_eq_getElem hi'] at h1
  refine trod144 ?_ h1
  have h2 : (xs.map (·.1))[i]? = some xs[i].1 := by simp [hi']
  rw [hx1] at h2
  have hi2 : i < recL.length := hi
  rw [List.getElem?_map, List.getElem?_eq_getElem hi2] at h2
  rw [List.getD_eq_getElem?_getD, List.getElem?_eq_getElem hi2]
  exact (Option.some.inj h2).symm
theorem mon_of_head {W : World} {rest : List (String × DataW Unit)} (h : laidMet Tryz.prog (("daybook/day.monthDays", Rows.laid_daybook_day_monthDays) :: rest) W) : Mon W := by
  rw [laidM_same] at h
  exact Lib.tabIs_of_head (g := 2) (t := 251) (e := 3) (n := 12) mon_no (by kernel_rfl) Tryz.underlying251 Tryz.underlying3 (by kernel_rfl) (by kernel_rfl) h
end Go.Proofs.YtbenciieenbmeaaGreatDoor
/- answer: the laws' arguments, opened: a query, rows, numbers. -/
namespace Go.Proofs.YtbenciieenbmeaaGreatDoor
open Go.Deep Go Go.RowKit Go.Shelf Go.ChangeShapes Go.WideShapes Go.ChangeAt Go.Maps
set_option linter.unusedVariables false
set_option linter.unusedSimpArgs false
set_option maxRecDepth 100000
set_option maxHeartbeats 8000000
theorem c22 : Tryz.prog.cellsOf 22 = 1 := by kernel_rfl
theorem c23 : Tryz.prog.cellsOf 23 = 1 := by kernel_rfl
theorem c24 : Tryz.prog.cellsOf 24 = 1 := by kernel_rfl
theorem c25 : Tryz.prog.cellsOf 25 = 1 := by kernel_rfl
theorem c28 : Tryz.prog.cellsOf 28 = 1 := by kernel_rfl
theorem c27 : Tryz.prog.cellsOf 27 = 6 := by kernel_rfl
theorem c51 : Tryz.prog.cellsOf 51 = 6 := by kernel_rfl
theorem c56 : Tryz.prog.cellsOf 56 = 2 := by kernel_rfl
theorem c70 : Tryz.prog.cellsOf 70 = 2 := by kernel_rfl
theorem c39 : Tryz.prog.cellsOf 39 = 9 := by kernel_rfl
theorem cMix : Tryz.prog.cellsOf 30 = 9 := by kernel_rfl
theorem cCase : Tryz.prog.cellsOf 58 = 7 := by kernel_rfl
theorem cc2 : Tryz.prog.cellsOf 2 = 1 := by kernel_rfl
theorem cc3 : Tryz.prog.cellsOf 3 = 1 := by kernel_rfl
theorem cc4 : Tryz.prog.cellsOf 4 = 1 := by kernel_rfl
theorem cc9 : Tryz.prog.cellsOf 9 = 1 := by kernel_rfl
theorem list6 {α : Type} {cs : List α} (h : cs.length = 6) : ∃ c0 c1 c2 c3 c4 c5, cs = [c0, c1, c2, c3, c4, c5] := by
  match cs, h with
  | [c0, c1, c2, c3, c4, c5], _ => exact ⟨c0, c1, c2, c3, c4, c5, rfl⟩
theorem list7 {α : Type} {cs : List α} (h : cs.length = 7) : ∃ c0 c1 c2 c3 c4 c5 c6, cs = [c0, c1, c2, c3, c4, c5, c6] := by
  match cs, h with
  | [c0, c1, c2, c3, c4, c5, c6], _ => exact ⟨c0, c1, c2, c3, c4, c5, c6, rfl⟩
theorem list9 {α : Type} {cs : List α} (h : cs.length = 9) : ∃ c0 c1 c2 c3 c4 c5 c6 c7 c8, cs = [c0, c1, c2, c3, c4, c5, c6, c7, c8] := by
  match cs, h with
  | [c0, c1, c2, c3, c4, c5, c6, c7, c8], _ => exact ⟨c0, c1, c2, c3, c4, c5, c6, c7, c8, rfl⟩
theorem choose_list {α : Type} {P : Nat → α → Prop} : ∀ n, (∀ i, i < n → ∃ x, P i x) → ∃ L : List α, L.length = n ∧ ∀ i (h : i < L.length), P i L[i]
  | 0, _ => ⟨[], rfl, fun i h => by simp at h⟩
  | n + 1, h => by
    obtain ⟨L, hl, hL⟩ := choose_list n (fun i hi => h i (by omega))
    obtain ⟨x, hx⟩ := h n (by omega)
    refine ⟨L ++ [x], by simp [hl], fun i hi => ?_⟩
    by_cases hi' : i < L.length
    · rw [List.getElem_append_left hi']
      exact hL i hi'
    · have : i = n := by simp [hl] at hi hi'; omega
      subst this
      rw [List.getElem_append_right (by omega)]
      simpa [hl] using hx
theorem one_le {H : Type} (d : DataW H) : 1 ≤ Rows.uptoBulk d := by
  cases d with
  | lit l => cases l <;> simp [Rows.uptoBulk]
  | nil => simp [Rows.uptoBulk]
  | ptr d => simp [Rows.uptoBulk]
  | slice elems spare => simp [Rows.uptoBulk]
  | agg parts => simp [Rows.uptoBulk]
  | iface t d => simp [Rows.uptoBulk]
  | map entries => simp [Rows.uptoBulk]
  | held h => simp [Rows.uptoBulk]
theorem bulk_mem {H : Type} {d : DataW H} : ∀ {l : List (DataW H)}, d ∈ l → Rows.uptoBulk d ≤ Rows.uptoBulkAll l
  | x :: l, h => by
    simp only [Rows.uptoBulkAll]
    rcases List.mem_cons.1 h with rfl | h
    · omega
    · have := bulk_mem h; omega
theorem bulk_len {H : Type} : ∀ (l : List (DataW H)), l.length ≤ Rows.uptoBulkAll l
  | [] => Nat.zero_le _
  | x :: l => by
    simp only [Rows.uptoBulkAll, List.length_cons]
    have := bulk_len l; have := one_le x; omega
theorem i64_in {n : Int} (hb : (Lit.int .i64 n).wf = true) : I64 n := by
  simp [Lit.wf, IntKind.min, IntKind.max, IntKind.signed, IntKind.bits] at hb
  exact ⟨by omega, by omega⟩
section
variable {H : Type} {enc : TypeId × Value → H} {W : World}
/-- a cell that is a list of any kind, opened -/
theorem open_list {α : Type} {K : Kd α} (hK : KdOK K) (hcells : Tryz.prog.cellsOf K.e = K.s) {P : α → Prop} (opn : ∀ (fuel : Nat) (cs : List Value) (x : DataW H × List MemPlace), DataW.trod enc Tryz.prog W 0 (fun _ => true) true fuel K.e cs = some x → Rows.uptoBulk x.1 ≤ 1048576 → ∃ y, cs = K.enc y ∧ P y)
    {fuel : Nat} {v : Value} {x : DataW H × List MemPlace} (h : DataW.trod enc Tryz.prog W 0 (fun _ => true) true fuel K.t [v] = some x) (hw : Rows.uptoBulk x.1 ≤ 1048576) :
    ∃ pu L cu, v = .slice pu L.length cu ∧ (pu = none → cu = 0) ∧ Lies K W pu L ∧ L.length < Rows.uptoBulk x.1 ∧ ∀ y ∈ L, P y := by
  rcases open_slice hK.und h with ⟨hcs, _⟩ | ⟨a, len, cap, m, n, D, Pl, hcs, hb, hl, hm, hmm, hx, hall⟩
  · simp only [List.cons.injEq, and_true] at hcs
    exact ⟨none, [], 0, hcs, fun _ => rfl, Lies.nil W none, by have := one_le x.1; simp only [List.length_nil]; omega, fun y hy => by cases hy⟩
  · simp only [List.cons.injEq, and_true] at hcs
    have hmm' : m = cap := by simpa using hmm
    have hd : x.1 = .slice ((List.range len).map D) ((List.range (m - len)).map fun j => D (len + j)) := by rw [hx]
    have hb1 : Rows.uptoBulk x.1 = 1 + Rows.uptoBulkAll ((List.range len).map D) + Rows.uptoBulkAll ((List.range (m - len)).map fun j => D (len + j)) := by
      rw [hd]; simp only [Rows.uptoBulk]; omega
    have hlk : len < Rows.uptoBulk x.1 := by
      have := bulk_len ((List.range len).map D)
      simp only [List.length_map, List.length_range] at this
      omega
    have hD : ∀ i, i < m → Rows.uptoBulk (D i) ≤ 1048576 := fun i hi => by
      by_cases hi' : i < len
      · have := bulk_mem (d := D i) (l := (List.range len).map D) (List.mem_map.2 ⟨i, List.mem_range.2 hi', rfl⟩)
        omega
      · have := bulk_mem (d := D i) (l := (List.range (m - len)).map fun j => D (len + j)) (List.mem_map.2 ⟨i - len, List.mem_range.2 (by omega), by rw [show len + (i - len) = i by omega]⟩)
        omega
    have hpos := hK.pos
    have hq : ∀ i, i < m → ∃ r : α, (∃ b off, some a = some (⟨b, off, none⟩ : Addr) ∧ b < W.heap.size ∧ W.rangeAt b (off + i * K.s) (K.enc r)) ∧ P r := fun i hi => by
      obtain ⟨cs', h1, h2⟩ := hall i (by omega)
      obtain ⟨r, hr, hP⟩ := opn _ _ _ h2 (hD i hi)
      rw [hcells] at h1
      obtain ⟨_, hlen, hc⟩ := World.cells?_some h1
      have hs : a.spot = none := by
        obtain ⟨cz, hz1, hz2⟩ := hall 0 (by omega)
        obtain ⟨rz, hrz, _⟩ := opn _ _ _ hz2 (hD 0 (by omega))
        rw [hcells] at hz1
        obtain ⟨_, _, hcz⟩ := World.cells?_some hz1
        have h3 := hcz 0 hpos
        rw [hrz] at h3
        have h4 : 0 < (K.enc rz).length := by rw [hK.len]; exact hpos
        rw [List.getElem?_eq_getElem h4] at h3
        simpa [Addr.add] using World.cell?_spot h3
      obtain ⟨b, off, sp⟩ := a
      simp only at hs
      subst hs
      refine ⟨r, ⟨b, off, rfl, ?_, fun j u hj => ?_⟩, hP⟩
      · have h3 := hc 0 hpos
        rw [hr] at h3
        have h4 : 0 < (K.enc r).length := by rw [hK.len]; exact hpos
        rw [List.getElem?_eq_getElem h4, add_add, Addr.add_mid] at h3
        exact World.block_lt_of_cell? W _ h3
      · have hj' : j < K.s := by
          have := (List.getElem?_eq_some_iff.1 hj).1
          rwa [hK.len] at this
        have h3 := hc j hj'
        rw [hr, hj, add_add, Addr.add_mid, ← Nat.add_assoc] at h3
        exact h3
    obtain ⟨R, hR, hall'⟩ := choose_list len (fun i hi => hq i (by omega))
    refine ⟨some a, R, cap, by rw [hR]; exact hcs, (fun h => by cases h), ⟨(fun h => by cases h), fun k hk => (hall' k hk).1⟩, by rw [hR]; exact hlk, fun y hy => ?_⟩
    obtain ⟨k, hk, rfl⟩ := List.mem_iff_getElem.1 hy
    exact (hall' k hk).2
theorem open_i (fuel : Nat) (cs : List Value) (x : DataW H × List MemPlace) (h : DataW.trod enc Tryz.prog W 0 (fun _ => true) true fuel 3 cs = some x) (_ : Rows.uptoBulk x.1 ≤ 1048576) : ∃ y : Int, cs = kI.enc y ∧ inI y := by
  obtain ⟨n, e, _, w⟩ := DataW.trod_int Tryz.underlying3 h
  exact ⟨n, e, i64_in w⟩
theorem open_g (fuel : Nat) (cs : List Value) (x : DataW H × List MemPlace) (h : DataW.trod enc Tryz.prog W 0 (fun _ => true) true fuel 56 cs = some x) (_ : Rows.uptoBulk x.1 ≤ 1048576) : ∃ y : Int × Int, cs = kG.enc y ∧ (inI y.1 ∧ inI y.2) := by
  obtain ⟨y0, y1, n, rfl, hl, h0, h1⟩ := trod_struct2 Tryz.underlying56 h
  rw [c56] at hl
  obtain ⟨a, b, rfl⟩ := len2 hl
  obtain ⟨z0, e0, _, w0⟩ := DataW.trod_int Tryz.underlying3 h0
  obtain ⟨z1, e1, _, w1⟩ := DataW.trod_int Tryz.underlying3 h1
  simp [cc3] at e0 e1
  exact ⟨(z0, z1), by rw [e0, e1]; rfl, i64_in w0, i64_in w1⟩
theorem open_o (fuel : Nat) (cs : List Value) (x : DataW H × List MemPlace) (h : DataW.trod enc Tryz.prog W 0 (fun _ => true) true fuel 70 cs = some x) (_ : Rows.uptoBulk x.1 ≤ 1048576) : ∃ y : Int × Bool, cs = kO.enc y ∧ True := by
  obtain ⟨y0, y1, n, rfl, hl, h0, h1⟩ := trod_struct2 Tryz.underlying70 h
  rw [c70] at hl
  obtain ⟨a, b, rfl⟩ := len2 hl
  obtain ⟨z0, e0, _, _⟩ := DataW.trod_int Tryz.underlying3 h0
  obtain ⟨z1, e1, _⟩ := DataW.trod_bool Tryz.underlying4 h1
  simp [cc3, cc4] at e0 e1
  exact ⟨(z0, z1), by rw [e0, e1]; rfl, trivial⟩
theorem open_n (fuel : Nat) (cs : List Value) (x : DataW H × List MemPlace) (h : DataW.trod enc Tryz.prog W 0 (fun _ => true) true fuel 51 cs = some x) (hk : Rows.uptoBulk x.1 ≤ 1048576) : ∃ y : Nd, cs = kN.enc y ∧ NdOk y := by
  obtain ⟨xs, n, _, rfl, hl, hlen, hf⟩ := DataW.trod_struct Tryz.underlying51 h
  rw [c51] at hl
  obtain ⟨a0, a1, a2, a3, a4, a5, rfl⟩ := list6 hl
  match xs, hlen with
  | [y0, y1, y2, y3, y4, y5], _ =>
    obtain ⟨z0, e0, _, _⟩ := DataW.trod_int Tryz.underlying3 (hf 0 _ rfl)
    obtain ⟨z1, e1, _, _⟩ := DataW.trod_int Tryz.underlying3 (hf 1 _ rfl)
    obtain ⟨z2, e2, _, _⟩ := DataW.trod_int Tryz.underlying3 (hf 2 _ rfl)
    obtain ⟨z3, e3, _, _⟩ := DataW.trod_int Tryz.underlying3 (hf 3 _ rfl)
    obtain ⟨z4, e4, _, w4⟩ := DataW.trod_int Tryz.underlying2 (hf 4 _ rfl)
    obtain ⟨z5, e5, x5, _⟩ := DataW.trod_string Tryz.underlying9 (hf 5 _ rfl)
    simp [cc3, cc2, cc9] at e0 e1 e2 e3 e4 e5
    refine ⟨⟨z0, z1, z2, z3, z4, z5⟩, by rw [e0, e1, e2, e3, e4, e5]; rfl, i64_in w4, ?_⟩
    have h5 : Rows.uptoBulk y5.1 = z5.size + 1 := by rw [x5]; simp [Rows.uptoBulk]
    simp only [Rows.uptoBulk, Rows.uptoBulkAll, List.map_cons, List.map_nil] at hk
    show z5.size < 4294967281
    omega
theorem open_r (fuel : Nat) (cs : List Value) (x : DataW H × List MemPlace) (h : DataW.trod enc Tryz.prog W 0 (fun _ => true) true fuel 39 cs = some x) (hk : Rows.uptoBulk x.1 ≤ 1048576) : ∃ y : Ro, cs = kR.enc y ∧ RoOk y := by
  obtain ⟨xs, n, _, rfl, hl, hlen, hf⟩ := DataW.trod_struct Tryz.underlying39 h
  rw [c39] at hl
  obtain ⟨a0, a1, a2, a3, a4, a5, a6, a7, a8, rfl⟩ := list9 hl
  match xs, hlen with
  | [y0, y1, y2, y3, y4, y5, y6, y7, y8], _ =>
    obtain ⟨z0, e0, _, w0⟩ := DataW.trod_int Tryz.underlying3 (hf 0 _ rfl)
    obtain ⟨z1, e1, _, w1⟩ := DataW.trod_int Tryz.underlying3 (hf 1 _ rfl)
    obtain ⟨z2, e2, _, w2⟩ := DataW.trod_int Tryz.underlying3 (hf 2 _ rfl)
    obtain ⟨z3, e3, _, w3⟩ := DataW.trod_int Tryz.underlying3 (hf 3 _ rfl)
    obtain ⟨z4, e4, x4, _⟩ := DataW.trod_string Tryz.underlying9 (hf 4 _ rfl)
    obtain ⟨z5, e5, x5, _⟩ := DataW.trod_string Tryz.underlying9 (hf 5 _ rfl)
    obtain ⟨z6, e6, _, w6⟩ := DataW.trod_int Tryz.underlying2 (hf 6 _ rfl)
    obtain ⟨z7, e7, x7, _⟩ := DataW.trod_string Tryz.underlying9 (hf 7 _ rfl)
    obtain ⟨z8, e8, x8, _⟩ := DataW.trod_string Tryz.underlying9 (hf 8 _ rfl)
    simp [cc3, cc2, cc9] at e0 e1 e2 e3 e4 e5 e6 e7 e8
    have h4 : Rows.uptoBulk y4.1 = z4.size + 1 := by rw [x4]; simp [Rows.uptoBulk]
    have h5 : Rows.uptoBulk y5.1 = z5.size + 1 := by rw [x5]; simp [Rows.uptoBulk]
    have h7 : Rows.uptoBulk y7.1 = z7.size + 1 := by rw [x7]; simp [Rows.uptoBulk]
    have h8 : Rows.uptoBulk y8.1 = z8.size + 1 := by rw [x8]; simp [Rows.uptoBulk]
    simp only [Rows.uptoBulk, Rows.uptoBulkAll, List.map_cons, List.map_nil] at hk
    refine ⟨⟨z0, z1, z2, z3, z4, z5, z6, z7, z8⟩, by rw [e0, e1, e2, e3, e4, e5, e6, e7, e8]; rfl, ?_⟩
    exact ⟨i64_in w0, i64_in w1, i64_in w2, i64_in w3, i64_in w6, by show z4.size < _; omega, by show z5.size < _; omega, by show z7.size < _; omega, by show z8.size < _; omega⟩
/-- a query and rows as they were handed in -/
structure Arg (W : World) (q : Qy) (a : Qa) (pR : Option Addr) (cR : Nat) (R : List Ro) : Prop where
  qi : QIn W q a
  qc : QCp a
  nn : q.nodes.length ≤ 1048576
  nb : q.by'.length ≤ 1048575
  ns : q.sh.length ≤ 1048575
  no : q.ords.length ≤ 1048575
  nd : ∀ x ∈ q.nodes, NdOk x
  sI : ∀ x ∈ q.sh, inI x.1 ∧ inI x.2
  bI : ∀ x ∈ q.by', inI x
  wI : inI q.wh
  lI : inI q.lim
  rl : Lies kR W pR R
  rc : pR = none → cR = 0
  rn : R.length ≤ 1048575
  ro : ∀ r ∈ R, RoOk r
theorem open_q {fuel : Nat} {a0 a1 a2 a3 a4 a5 : Value} {x : DataW H × List MemPlace} (h : DataW.trod enc Tryz.prog W 0 (fun _ => true) true fuel 27 [a0, a1, a2, a3, a4, a5] = some x) (hk : Rows.uptoBulk x.1 ≤ 1048576) :
    ∃ q a, [a0, a1, a2, a3, a4, a5] = qC q a ∧ QIn W q a ∧ QCp a ∧ q.nodes.length ≤ 1048575 ∧ q.by'.length ≤ 1048575 ∧ q.sh.length ≤ 1048575 ∧ q.ords.length ≤ 1048575 ∧ (∀ x ∈ q.nodes, NdOk x) ∧ (∀ x ∈ q.sh, inI x.1 ∧ inI x.2) ∧ (∀ x ∈ q.by', inI x) ∧ inI q.wh ∧ inI q.lim := by
  obtain ⟨xs, n, _, rfl, hl, hlen, hg⟩ := DataW.trod_struct Tryz.underlying27 h
  match xs, hlen with
  | [y0, y1, y2, y3, y4, y5], _ =>
    simp only [Rows.uptoBulk, Rows.uptoBulkAll, List.map_cons, List.map_nil] at hk
    have g0 := hg 0 _ rfl
    have g1 := hg 1 _ rfl
    have g2 := hg 2 _ rfl
    have g3 := hg 3 _ rfl
    have g4 := hg 4 _ rfl
    have g5 := hg 5 _ rfl
    simp [c22] at g0
    simp [cc3] at g1
    simp [c23] at g2
    simp [c24] at g3
    simp [c25] at g4
    simp [cc3] at g5
    obtain ⟨pN, LN, cN, rfl, h01, h02, h03, h05⟩ := open_list kN_ok c51 open_n g0 (by omega)
    obtain ⟨z1, e1, _, w1⟩ := DataW.trod_int Tryz.underlying3 g1
    obtain ⟨pB, LB, cB, rfl, h21, h22, h23, h25⟩ := open_list kI_ok cc3 open_i g2 (by omega)
    obtain ⟨pS, LS, cS, rfl, h31, h32, h33, h35⟩ := open_list kG_ok c56 open_g g3 (by omega)
    obtain ⟨pO, LO, cO, rfl, h41, h42, h43, _⟩ := open_list kO_ok c70 open_o g4 (by omega)
    obtain ⟨z5, e5, _, w5⟩ := DataW.trod_int Tryz.underlying3 g5
    simp only [List.cons.injEq, and_true] at e1 e5
    subst e1 e5
    refine ⟨⟨LN, z1, LB, LS, LO, z5⟩, ⟨pN, cN, pB, cB, pS, cS, pO, cO⟩, rfl, ⟨h02, h22, h32, h42, ?_, ?_, ?_, ?_⟩, ⟨h01, h21, h31, h41⟩, ?_, ?_, ?_, ?_, h05, h35, h25, i64_in w1, i64_in w5⟩
    all_goals (simp only; omega)
theorem open_case {base : Nat} {v : Value} {d : DataW H} {p : List MemPlace} (hok : Value.okWide Tryz.prog W .any base 58 v) (h : ∃ fuel, DataW.trod enc Tryz.prog W 0 (fun _ => true) true fuel 58 v.cells.toList = some (d, p)) (hk : Rows.uptoBulk d ≤ 1048576) :
    ∃ q a pR cR R, v = .agg #[.slice a.pN q.nodes.length a.cN, .int .i64 q.wh, .slice a.pB q.by'.length a.cB, .slice a.pS q.sh.length a.cS, .slice a.pO q.ords.length a.cO, .int .i64 q.lim, .slice pR R.length cR] ∧ Arg W q a pR cR R := by
  obtain ⟨cs, rfl, hsz⟩ := okWide_struct Tryz.underlying58 hok
  obtain ⟨fuel, hf⟩ := h
  obtain ⟨xs, n, _, hx, hl, hlen, hg⟩ := DataW.trod_struct Tryz.underlying58 hf
  rw [cCase] at hsz
  obtain ⟨cl⟩ := cs
  obtain ⟨a0, a1, a2, a3, a4, a5, a6, rfl⟩ := list7 (cs := cl) hsz
  match xs, hlen with
  | [y0, y1], _ =>
    have hd : d = .agg [y0.1, y1.1] := (Prod.mk.inj hx).1
    rw [hd] at hk
    simp only [Rows.uptoBulk, Rows.uptoBulkAll] at hk
    have g0 := hg 0 _ rfl
    have g1 := hg 1 _ rfl
    simp [Value.cells, c27] at g0
    simp [Value.cells, c28] at g1
    obtain ⟨q, a, e0, k1, k2, k4, k5, k6, k7, k8, k9, k10, k11, k12⟩ := open_q g0 (by omega)
    obtain ⟨pR, R, cR, rfl, h1, h2, h3, h5⟩ := open_list kR_ok c39 open_r g1 (by omega)
    exact ⟨q, a, pR, cR, R, by simp only [qC, List.cons.injEq, and_true] at e0; obtain ⟨rfl, rfl, rfl, rfl, rfl, rfl⟩ := e0; rfl, k1, k2, by omega, k5, k6, k7, k8, k9, k10, k11, k12, h2, h1, by omega, h5⟩
theorem open_mixed {base : Nat} {v : Value} {d : DataW H} {p : List MemPlace} (hok : Value.okWide Tryz.prog W .any base 30 v) (h : ∃ fuel, DataW.trod enc Tryz.prog W 0 (fun _ => true) true fuel 30 v.cells.toList = some (d, p)) (hk : Rows.uptoBulk d ≤ 1048576) :
    ∃ q a pR cR R pP cP P n, v = .agg #[.slice a.pN q.nodes.length a.cN, .int .i64 q.wh, .slice a.pB q.by'.length a.cB, .slice a.pS q.sh.length a.cS, .slice a.pO q.ords.length a.cO, .int .i64 q.lim, .slice pR R.length cR, .slice pP P.length cP, .int .i64 n] ∧ Arg W q a pR cR R ∧ Lies kI W pP P ∧ P.length ≤ 1048575 ∧ (∀ x ∈ P, inI x) ∧ inI n := by
  obtain ⟨cs, rfl, hsz⟩ := okWide_struct Tryz.underlying30 hok
  obtain ⟨fuel, hf⟩ := h
  obtain ⟨xs, n, _, hx, hl, hlen, hg⟩ := DataW.trod_struct Tryz.underlying30 hf
  rw [cMix] at hsz
  obtain ⟨cl⟩ := cs
  obtain ⟨a0, a1, a2, a3, a4, a5, a6, a7, a8, rfl⟩ := list9 (cs := cl) hsz
  match xs, hlen with
  | [y0, y1, y2, y3], _ =>
    have hd : d = .agg [y0.1, y1.1, y2.1, y3.1] := (Prod.mk.inj hx).1
    rw [hd] at hk
    simp only [Rows.uptoBulk, Rows.uptoBulkAll] at hk
    have g0 := hg 0 _ rfl
    have g1 := hg 1 _ rfl
    have g2 := hg 2 _ rfl
    have g3 := hg 3 _ rfl
    simp [Value.cells, c27] at g0
    simp [Value.cells, c28] at g1
    simp [Value.cells, c23] at g2
    simp [Value.cells, cc3] at g3
    obtain ⟨q, a, e0, k1, k2, k4, k5, k6, k7, k8, k9, k10, k11, k12⟩ := open_q g0 (by omega)
    obtain ⟨pR, R, cR, rfl, h1, h2, h3, h5⟩ := open_list kR_ok c39 open_r g1 (by omega)
    obtain ⟨pP, LP, cP, rfl, _, j2, j3, j5⟩ := open_list kI_ok cc3 open_i g2 (by omega)
    obtain ⟨z, e3, _, w3⟩ := DataW.trod_int Tryz.underlying3 g3
    simp only [List.cons.injEq, and_true] at e3
    subst e3
    exact ⟨q, a, pR, cR, R, pP, cP, LP, z, by simp only [qC, List.cons.injEq, and_true] at e0; obtain ⟨rfl, rfl, rfl, rfl, rfl, rfl⟩ := e0; rfl, ⟨k1, k2, by omega, k5, k6, k7, k8, k9, k10, k11, k12, h2, h1, by omega, h5⟩, j2, by omega, j5, i64_in w3⟩
end
end Go.Proofs.YtbenciieenbmeaaGreatDoor
/- AnswerOrder: rows drawn one by one out of a list. -/
namespace Go.Proofs.YtbenciieenbmeaaGreatDoor
open Go Go.Shelf Go.ChangeShapes Go.WideShapes Go.ChangeAt Go.RowKit Go.Maps Go.Sort
set_option linter.unusedVariables false
set_option maxRecDepth 100000
set_option maxHeartbeats 4000000
def Ro.arr (r : Ro) : Array Value := #[.int .i64 r.i0, .int .i64 r.i1, .int .i64 r.i2, .int .i64 r.i3, .string r.s4, .string r.acc, .int .i64 r.amt, .string r.s7, .string r.s8]
theorem draw_perm {α : Type} (L : List α) (a : Nat) (h : a < L.length) : ([L[a]] ++ (L.take a ++ L.drop (a + 1))).Perm L := by
  have e : L = L.take a ++ (L[a] :: L.drop (a + 1)) := by rw [← List.drop_eq_getElem_cons h, List.take_append_drop]
  have p : (L.take a ++ (L[a] :: L.drop (a + 1))).Perm (L[a] :: (L.take a ++ L.drop (a + 1))) := List.perm_middle
  rw [← e] at p
  exact p.symm
/-- rows that are left, rows that were drawn -/
structure Dr (W0 wr : World) (R0 : List Ro) (vl vm : Value) (n k : Nat) (Lf Mx : List Ro) : Prop where
  lf : Rw kR W0 wr vl n Lf
  mx : Rw kR W0 wr vm k Mx
  ap : ∀ g, vl.ownBlock = some g → vm.ownBlock ≠ some g
  pm : (Mx ++ Lf).Perm R0
theorem Dr.draw {W0 W : World} {R0 Lf Mx : List Ro} {g c n k a : Nat} {u : Value} (h : Dr W0 W R0 (.slice (some ⟨g, 0, none⟩) n c) u n k Lf Mx) (ha : a < n) (hkn : k + n ≤ 1048576) :
    ∃ (r : Ro) (p1 : Option Addr) (c1 : Nat) (w1 : World) (p2 : Option Addr) (c2 : Nat) (w2 : World) (p3 : Option Addr) (c3 : Nat) (w3 : World), W.rangeAt g (a * 9) r.vals ∧ (Builtin.append_ #[28, 28] 28 #[u, .slice (some ⟨W.heap.size, 0, none⟩) 1 1]).run Tryz.prog (W.alloc (.cells r.arr 39)) = .ok (.slice p1 (k + 1) c1) w1 ∧ (Builtin.append_ #[28, 28] 28 #[.slice none 0 0, .slice (some ⟨g, 0, none⟩) a c]).run Tryz.prog w1 = .ok (.slice p2 a c2) w2 ∧ (Builtin.append_ #[28, 28] 28 #[.slice p2 a c2, .slice (if c = a + 1 then some ⟨g, 0, none⟩ else some ⟨g, (a + 1) * 9, none⟩) (n - (a + 1)) (c - (a + 1))]).run Tryz.prog w2 = .ok (.slice p3 (n - 1) c3) w3 ∧
      ∃ Lf' Mx', Dr W0 w3 R0 (.slice p3 (n - 1) c3) (.slice p1 (k + 1) c1) (n - 1) (k + 1) Lf' Mx' := by
  have hl := h.lf.len
  have hm := h.mx.len
  have hs0 := h.lf.bel.size
  have hLi := h.lf.lies kR_ok
  have hgb := row_block h.lf.row (g := g) rfl
  have haL : a < Lf.length := by omega
  obtain ⟨r, hr⟩ : ∃ r, r = Lf[a] := ⟨_, rfl⟩
  obtain ⟨p1, c1, w1, r1, o1, b1, s1, n1, z1⟩ := app1 kR_ok (wr := W) (B := W0.heap.size) (v := u) (n := k) (L := Mx) h.mx.row hs0 r r.arr rfl 28 (by omega)
  have hg1 : w1.heap[g]? = W.heap[g]? := s1 g hgb.2.1 (h.ap g rfl)
  have hl1 : w1.ownsRow W0.heap.size 39 9 (.slice (some ⟨g, 0, none⟩) n c) n (kR.flat Lf) := row_keep h.lf.row (fun q hq => by
    have e : g = q := Option.some.inj hq
    subst e; exact hg1)
  have hLi1 : Lies kR w1 (some ⟨g, 0, none⟩) Lf := own_lies kR_ok hl hl1
  have hA := hLi1.part 0 a
  rw [Nat.zero_mul, Nat.add_zero, List.drop_zero] at hA
  have lA : (Lf.take a).length = a := by rw [List.length_take]; omega
  obtain ⟨p2, c2, w2, r2, o2, b2, s2, n2⟩ := run_app kR_ok 28 (W := w1) (B := w1.heap.size) (v := .slice none 0 0) (L := []) (n := 0) (M := Lf.take a) ⟨by simp [Kd.flat], .inl ⟨rfl, rfl⟩⟩ (Nat.le_refl _) (some ⟨g, 0, none⟩) c (fun h => by cases h) hA (by omega)
  rw [lA, Nat.zero_add] at r2 o2
  rw [List.nil_append] at o2
  have hLi2 : Lies kR w2 (some ⟨g, 0, none⟩) Lf := hLi1.below b2
  have lB : (Lf.drop (a + 1)).length = n - (a + 1) := by rw [List.length_drop, hl]
  have hB : Lies kR w2 (if c = a + 1 then some ⟨g, 0, none⟩ else some ⟨g, (a + 1) * 9, none⟩) (Lf.drop (a + 1)) := by
    have hx := hLi2.part (a + 1) (n - (a + 1))
    rw [List.take_of_length_le (by omega), Nat.zero_add] at hx
    by_cases hc : c = a + 1
    · rw [if_pos hc]
      have hcn : n ≤ c := by
        obtain ⟨p, c', e, _, h2⟩ := row_slice h.lf.row
        injection e with e1 e2 e3
        subst e3
        exact (h2 _ e1.symm).2.2.2
      have e : Lf.drop (a + 1) = [] := List.length_eq_zero_iff.1 (by omega)
      rw [e]
      exact ⟨fun _ => rfl, fun k hk => by cases hk⟩
    · rw [if_neg hc]; exact hx
  obtain ⟨p3, c3, w3, r3, o3, b3, s3, n3⟩ := run_app kR_ok 28 (W := w2) (B := w1.heap.size) (v := .slice p2 a c2) (L := Lf.take a) (n := a) (M := Lf.drop (a + 1)) o2 b2.size (if c = a + 1 then some ⟨g, 0, none⟩ else some ⟨g, (a + 1) * 9, none⟩) (c - (a + 1)) (fun h => by
    by_cases hc : c = a + 1
    · omega
    · rw [if_neg hc] at h; cases h) hB (by omega)
  rw [lB, show a + (n - (a + 1)) = n - 1 by omega] at r3 o3
  have b13 : Below w1.heap.size w1 w3 := b2.trans b3
  have hb1 : Below W0.heap.size W0 w1 := h.lf.bel.trans b1
  have hs1 := hb1.size
  refine ⟨r, p1, c1, w1, p2, c2, w2, p3, c3, w3, ?_, r1, r2, r3, Lf.take a ++ Lf.drop (a + 1), Mx ++ [r], ⟨⟨row_le o3 hs1, hb1.trans (b13.mono hs1), by rw [List.length_append]; omega⟩, ?_, ?_, ?_⟩⟩
  · obtain ⟨b', off', e, hlt, hr'⟩ := hLi.2 a haL
    cases e
    rw [Nat.zero_add] at hr'
    rw [hr]; exact hr'
  · exact (show Rw kR W0 w1 (.slice p1 (k + 1) c1) (k + 1) (Mx ++ [r]) from ⟨o1, hb1, by rw [List.length_append, hm]; rfl⟩).below b13
  · intro q h1 h2
    have h3 := (row_block o3 h1).1
    have h4 := (row_block o1 h2).2.1
    omega
  · rw [hr, List.append_assoc]
    exact (List.Perm.append_left Mx (draw_perm Lf a haL)).trans h.pm
end Go.Proofs.YtbenciieenbmeaaGreatDoor
