/- typing: what the rows say of the tables, read off. -/
import Derived.Test.YtfpbljfebjochaaGreatDoorTyB
import Derived.Test.YtfpbljfebjochaaGreatDoorRows
import Derived.OpenShut
import Derived.ChangeSame
import Derived.Stop.LaidErr
namespace Go.Proofs.YtfpbljfebjochaaGreatDoor
open Go Go.ChangeShapes Go.WideShapes Go.ChangeAt Go.RowKit
set_option linter.unusedVariables false
theorem pieces {cs : List Value} {s n : Nat} (hs : 0 < s) (f : Nat → List Value) (hl : cs.length = n * s) (hf : ∀ i, i < n → (cs.drop (i * s)).take s = f i) {M : List Value} (hM : M.length = n * s) (hm : ∀ i, i < n → (M.drop (i * s)).take s = f i) : cs = M := by
  apply List.ext_getElem?
  intro j
  by_cases hj : j < n * s
  · have hi : j / s < n := Nat.div_lt_of_lt_mul (by rw [Nat.mul_comm]; exact hj)
    have hr : j % s < s := Nat.mod_lt _ hs
    have e : j = j / s * s + j % s := (Nat.div_add_mod' j s).symm
    have h1 : ((cs.drop (j / s * s)).take s)[j % s]? = cs[j]? := by
      rw [List.getElem?_take_of_lt hr, List.getElem?_drop, ← e]
    have h2 : ((M.drop (j / s * s)).take s)[j % s]? = M[j]? := by
      rw [List.getElem?_take_of_lt hr, List.getElem?_drop, ← e]
    rw [← h1, ← h2, hf _ hi, hm _ hi]
  · rw [List.getElem?_eq_none (by omega), List.getElem?_eq_none (by omega)]
theorem len2 {cs : List Value} (h : cs.length = 2) : ∃ a b, cs = [a, b] := by
  match cs, h with
  | [a, b], _ => exact ⟨a, b, rfl⟩
theorem len4 {cs : List Value} (h : cs.length = 4) : ∃ a b c d, cs = [a, b, c, d] := by
  match cs, h with
  | [a, b, c, d], _ => exact ⟨a, b, c, d, rfl⟩
section
variable {H : Type} {enc : TypeId × Value → H} {w : World} {base : Nat} {sp : Nat → Bool} {held : Bool} {fuel : Nat} {cs : List Value} {p : List MemPlace}
theorem trod55 {y : DataW H × List MemPlace} {s : List UInt8} {z : Int} (hy : y.1 = .agg [.lit (.string s), .lit (.int .i64 z)]) (h : DataW.trod enc Tryz.prog w base sp held fuel 265 cs = some y) : cs = [.string ⟨s.toArray⟩, .int .i64 z] := by
  obtain ⟨y0, y1, n, rfl, hl, h0, h1⟩ := trod_struct2 Tryz.underlying265 h
  have c9 : Tryz.prog.cellsOf 9 = 1 := by kernel_rfl
  have c3 : Tryz.prog.cellsOf 3 = 1 := by kernel_rfl
  have c55 : Tryz.prog.cellsOf 265 = 2 := by kernel_rfl
  obtain ⟨s', e0, rfl, _⟩ := DataW.trod_string Tryz.underlying9 h0
  obtain ⟨z', e1, rfl, _⟩ := DataW.trod_int Tryz.underlying3 h1
  simp at hy
  rw [c55] at hl
  obtain ⟨a, b, rfl⟩ := len2 hl
  simp [c9, c3] at e0 e1
  rw [e0, e1, hy.2, ← hy.1]
theorem trod144 {y : DataW H × List MemPlace} {a b c d : Int} (hy : y.1 = .agg [.lit (.int .i64 a), .lit (.int .i64 b), .lit (.int .i64 c), .lit (.int .i64 d)]) (h : DataW.trod enc Tryz.prog w base sp held fuel 292 cs = some y) : cs = [.int .i64 a, .int .i64 b, .int .i64 c, .int .i64 d] := by
  obtain ⟨xs, n, _, rfl, hl, hlen, hf⟩ := DataW.trod_struct Tryz.underlying292 h
  have c3 : Tryz.prog.cellsOf 3 = 1 := by kernel_rfl
  have c144 : Tryz.prog.cellsOf 292 = 4 := by kernel_rfl
  rw [c144] at hl
  match xs, hlen with
  | [y0, y1, y2, y3], _ =>
    have h0 := hf 0 _ rfl
    have h1 := hf 1 _ rfl
    have h2 := hf 2 _ rfl
    have h3 := hf 3 _ rfl
    obtain ⟨z0, e0, q0, _⟩ := DataW.trod_int Tryz.underlying3 h0
    obtain ⟨z1, e1, q1, _⟩ := DataW.trod_int Tryz.underlying3 h1
    obtain ⟨z2, e2, q2, _⟩ := DataW.trod_int Tryz.underlying3 h2
    obtain ⟨z3, e3, q3, _⟩ := DataW.trod_int Tryz.underlying3 h3
    subst q0 q1 q2 q3
    simp at hy
    obtain ⟨a, b, c, d, rfl⟩ := len4 hl
    simp [c3] at e0 e1 e2 e3
    rw [e0, e1, e2, e3, hy.1, hy.2.1, hy.2.2.1, hy.2.2.2]
end
def fldB : List (List UInt8 × Int) := fldL.map fun x => (x.1.data.toList, x.2)
theorem laidF_same : (Rows.laid_daybook_typing_fields : DataW Unit) = .agg (fldB.map fun x => .agg [.lit (.string x.1), .lit (.int .i64 x.2)]) := by kernel_rfl
theorem laidR_same : (Rows.laid_daybook_typing_reckonings : DataW Unit) = .agg (recL.map fun x => .agg [.lit (.int .i64 x.1), .lit (.int .i64 x.2.1), .lit (.int .i64 x.2.2.1), .lit (.int .i64 x.2.2.2)]) := by kernel_rfl
theorem laidM_same : (Rows.laid_daybook_day_monthDays : DataW Unit) = Lib.tabData .i64 monL := by kernel_rfl
theorem fldC_piece : ∀ i, i < 15 → (fldC.toList.drop (i * 2)).take 2 = [.string ⟨(fldB.getD i ([], 0)).1.toArray⟩, .int .i64 (fldB.getD i ([], 0)).2] := fun i hi => by
  match i, hi with
  | 0, _ => rfl
  | 1, _ => rfl
  | 2, _ => rfl
  | 3, _ => rfl
  | 4, _ => rfl
  | 5, _ => rfl
  | 6, _ => rfl
  | 7, _ => rfl
  | 8, _ => rfl
  | 9, _ => rfl
  | 10, _ => rfl
  | 11, _ => rfl
  | 12, _ => rfl
  | 13, _ => rfl
  | 14, _ => rfl
theorem recC_piece : ∀ i, i < 11 → (recC.toList.drop (i * 4)).take 4 = [.int .i64 (recL.getD i (0, 0, 0, 0)).1, .int .i64 (recL.getD i (0, 0, 0, 0)).2.1, .int .i64 (recL.getD i (0, 0, 0, 0)).2.2.1, .int .i64 (recL.getD i (0, 0, 0, 0)).2.2.2] := fun i hi => by
  match i, hi with
  | 0, _ => rfl
  | 1, _ => rfl
  | 2, _ => rfl
  | 3, _ => rfl
  | 4, _ => rfl
  | 5, _ => rfl
  | 6, _ => rfl
  | 7, _ => rfl
  | 8, _ => rfl
  | 9, _ => rfl
  | 10, _ => rfl
set_option maxRecDepth 100000 in
theorem flds_of_head {W : World} {rest : List (String × DataW Unit)} (h : laidMet Tryz.prog (("daybook/typing.fields", Rows.laid_daybook_typing_fields) :: rest) W) : Flds W := by
  obtain ⟨ps, ⟨g', t', cs, fuel, p, q, hg', ht', hvar, hd, _, _⟩, _⟩ := h
  obtain rfl := Option.some.inj (fld_no.symm.trans hg')
  obtain rfl := Option.some.inj ((show (Tryz.prog.globals[0]?).map (·.type) = some 266 by kernel_rfl).symm.trans ht')
  rw [laidF_same] at hd
  have c55 : Tryz.prog.cellsOf 265 = 2 := by kernel_rfl
  have c56 : Tryz.prog.cellsOf 266 = 30 := by kernel_rfl
  obtain ⟨xs, m, _, hx, hl, hlen, hf⟩ := DataW.trod_array Tryz.underlying266 hd
  have hx1 : xs.map (·.1) = fldB.map fun x => (DataW.agg [.lit (.string x.1), .lit (.int .i64 x.2)] : DataW Unit) := by
    have := congrArg Prod.fst hx
    simpa using this.symm
  unfold Flds
  rw [hvar]
  congr 1
  apply Array.ext'
  rw [c56] at hl
  rw [c55] at hf
  refine (pieces (s := 2) (n := 15) (by decide) (fun i => [.string ⟨(fldB.getD i ([], 0)).1.toArray⟩, .int .i64 (fldB.getD i ([], 0)).2]) (by simpa using hl) (fun i hi => ?_) (by rfl) fldC_piece)
  have h1 := hf i hi
  have hi' : i < xs.length := by omega
  rw [List.getElem?_eq_getElem hi'] at h1
  refine trod55 ?_ h1
  have h2 : (xs.map (·.1))[i]? = some xs[i].1 := by simp [hi']
  rw [hx1] at h2
  have hi2 : i < fldB.length := hi
  rw [List.getElem?_map, List.getElem?_eq_getElem hi2] at h2
  rw [List.getD_eq_getElem?_getD, List.getElem?_eq_getElem hi2]
  exact (Option.some.inj h2).symm
set_option maxRecDepth 100000 in
theorem recs_of_head {W : World} {rest : List (String × DataW Unit)} (h : laidMet Tryz.prog (("daybook/typing.reckonings", Rows.laid_daybook_typing_reckonings) :: rest) W) : Recs W := by
  obtain ⟨ps, ⟨g', t', cs, fuel, p, q, hg', ht', hvar, hd, _, _⟩, _⟩ := h
  obtain rfl := Option.some.inj (rec_no.symm.trans hg')
  obtain rfl := Option.some.inj ((show (Tryz.prog.globals[1]?).map (·.type) = some 293 by kernel_rfl).symm.trans ht')
  rw [laidR_same] at hd
  have c144 : Tryz.prog.cellsOf 292 = 4 := by kernel_rfl
  have c145 : Tryz.prog.cellsOf 293 = 44 := by kernel_rfl
  obtain ⟨xs, m, _, hx, hl, hlen, hf⟩ := DataW.trod_array Tryz.underlying293 hd
  have hx1 : xs.map (·.1) = recL.map fun x => (DataW.agg [.lit (.int .i64 x.1), .lit (.int .i64 x.2.1), .lit (.int .i64 x.2.2.1), .lit (.int .i64 x.2.2.2)] : DataW Unit) := by
    have := congrArg Prod.fst hx
    simpa using this.symm
  unfold Recs
  rw [hvar]
  congr 1
  apply Array.ext'
  rw [c145] at hl
  rw [c144] at hf
  refine (pieces (s := 4) (n := 11) (by decide) (fun i => [.int .i64 (recL.getD i (0, 0, 0, 0)).1, .int .i64 (recL.getD i (0, 0, 0, 0)).2.1, .int .i64 (recL.getD i (0, 0, 0, 0)).2.2.1, .int .i64 (recL.getD i (0, 0, 0, 0)).2.2.2]) (by simpa using hl) (fun i hi => ?_) (by rfl) recC_piece)
  have h1 := hf i hi
  have hi' : i < xs.length := by omega
  rw [List.getElem?_eq_getElem hi'] at h1
  refine trod144 ?_ h1
  have h2 : (xs.map (·.1))[i]? = some xs[i].1 := by simp [hi']
  rw [hx1] at h2
  have hi2 : i < recL.length := hi
  rw [List.getElem?_map, List.getElem?_eq_getElem hi2] at h2
  rw [List.getD_eq_getElem?_getD, List.getElem?_eq_getElem hi2]
  exact (Option.some.inj h2).symm
theorem mon_of_head {W : World} {rest : List (String × DataW Unit)} (h : laidMet Tryz.prog (("daybook/day.monthDays", Rows.laid_daybook_day_monthDays) :: rest) W) : Mon W := by
  rw [laidM_same] at h
  exact Lib.tabIs_of_head (g := 2) (t := 296) (e := 3) (n := 12) mon_no (by kernel_rfl) Tryz.underlying296 Tryz.underlying3 (by kernel_rfl) (by kernel_rfl) h
end Go.Proofs.YtfpbljfebjochaaGreatDoor
