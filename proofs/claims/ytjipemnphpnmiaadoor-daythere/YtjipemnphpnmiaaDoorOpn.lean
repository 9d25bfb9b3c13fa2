import Derived.Test.YtjipemnphpnmiaaDoorLeA
import Derived.Deep.Strs
namespace Go.Proofs.YtjipemnphpnmiaaDoor
open Go.ChangeShapes Go.WideShapes Go.ChangeAt Go.RowKit
set_option linter.unusedVariables false
theorem cells3 : Tryd.prog.cellsOf 3 = 1 := by kernel_rfl
theorem cells29 : Tryd.prog.cellsOf 29 = 3 := by kernel_rfl
/-- a date that comes in is three numbers -/
theorem open_date {H : Type} {enc : TypeId × Value → H} {w : World} {base : Nat} {spare : Nat → Bool} {held : Bool} {r : Reach} {b0 : Nat} {v : Value} {d : DataW H} {ps : List MemPlace}
    (hval : Value.okWide Tryd.prog w r b0 29 v) (hd : DataW.Trod enc Tryd.prog w base spare held 29 v d ps) :
    ∃ a b c : Int, v = .agg #[.int .i64 a, .int .i64 b, .int .i64 c] ∧ d = .agg [.lit (.int .i64 a), .lit (.int .i64 b), .lit (.int .i64 c)] ∧ ps = [] ∧ (Lit.int .i64 a).wf = true ∧ (Lit.int .i64 b).wf = true ∧ (Lit.int .i64 c).wf = true := by
  obtain ⟨cs, rfl, hs⟩ := okWide_struct Tryd.underlying29 hval
  obtain ⟨fuel, hf⟩ := hd
  obtain ⟨y0, y1, y2, n, hx, hl, t0, t1, t2⟩ := Go.Deep.trod_struct3 Tryd.underlying29 hf
  obtain ⟨a, ha, rfl, wa⟩ := DataW.trod_int Tryd.underlying3 t0
  obtain ⟨b, hb, rfl, wb⟩ := DataW.trod_int Tryd.underlying3 t1
  obtain ⟨c, hc, rfl, wc⟩ := DataW.trod_int Tryd.underlying3 t2
  rw [cells29] at hs
  simp only [cells3, Value.cells] at ha hb hc
  match cs, hs with
  | ⟨[x, y, z]⟩, _ =>
    simp at ha hb hc
    subst ha hb hc
    simp only [Prod.mk.injEq] at hx
    exact ⟨a, b, c, rfl, hx.1, hx.2, wa, wb, wc⟩
theorem shut_date {H : Type} {enc : TypeId × Value → H} {w : World} {base : Nat} {spare : Nat → Bool} {held : Bool} {a b c : Int} (wa : (Lit.int .i64 a).wf = true) (wb : (Lit.int .i64 b).wf = true) (wc : (Lit.int .i64 c).wf = true) :
    DataW.Trod enc Tryd.prog w base spare held 29 (.agg #[.int .i64 a, .int .i64 b, .int .i64 c]) (.agg [.lit (.int .i64 a), .lit (.int .i64 b), .lit (.int .i64 c)]) [] := by
  refine ⟨2, ?_⟩
  have h := Go.Deep.trod_struct3_mk (enc := enc) (w := w) (base := base) (spare := spare) (held := held) (n := 1) (cs := [.int .i64 a, .int .i64 b, .int .i64 c]) (y0 := (.lit (.int .i64 a), [])) (y1 := (.lit (.int .i64 b), [])) (y2 := (.lit (.int .i64 c), [])) Tryd.underlying29 (by rw [cells29]; rfl)
    (by simp [cells3, DataW.trod, Tryd.underlying3, wa]) (by simp [cells3, DataW.trod, Tryd.underlying3, wb]) (by simp [cells3, DataW.trod, Tryd.underlying3, wc])
  exact h
end Go.Proofs.YtjipemnphpnmiaaDoor
