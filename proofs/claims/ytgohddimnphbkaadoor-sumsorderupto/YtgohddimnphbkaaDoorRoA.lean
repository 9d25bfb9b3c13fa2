/- rows in memory. -/
import Derived.Test.YtgohddimnphbkaaDoorTwA
import Derived.Deep.MidRow
namespace Go.Proofs.YtgohddimnphbkaaDoor
open Go Go.ChangeShapes Go.WideShapes Go.ChangeAt Go.RowKit Go.Maps
set_option linter.unusedVariables false
/-- a row: its nine cells -/
structure Ro where
  i0 : Int
  i1 : Int
  i2 : Int
  i3 : Int
  s4 : ByteArray
  acc : ByteArray
  amt : Int
  s7 : ByteArray
  s8 : ByteArray
def Ro.vals (r : Ro) : List Value := [.int .i64 r.i0, .int .i64 r.i1, .int .i64 r.i2, .int .i64 r.i3, .string r.s4, .string r.acc, .int .i64 r.amt, .string r.s7, .string r.s8]
def Ro.row (r : Ro) : List UInt8 × Int := (r.acc.data.toList, r.amt)
def rws (R : List Ro) : Rows8 := R.map Ro.row
theorem rws_append (R S : List Ro) : rws (R ++ S) = rws R ++ rws S := List.map_append
theorem rws_len (R : List Ro) : (rws R).length = R.length := List.length_map _
/-- rows in memory: the slice that starts at p -/
def RowsAt (w : World) (p : Option Addr) (R : List Ro) : Prop :=
  ∀ k (hk : k < R.length), ∃ g, p = some ⟨g, 0, none⟩ ∧ g < w.heap.size ∧ w.rangeAt g (k * 9) (R[k]).vals
theorem RowsAt.block {w w' : World} {p : Option Addr} {R : List Ro} (h : RowsAt w p R) (hs : w.heap.size ≤ w'.heap.size) (hb : ∀ g, p = some ⟨g, 0, none⟩ → w'.heap[g]? = w.heap[g]?) : RowsAt w' p R := fun k hk => by
  obtain ⟨g, e, hg, hr⟩ := h k hk
  refine ⟨g, e, by omega, fun j v hv => ?_⟩
  exact (World.cell?_of_block (a := ⟨g, k * 9 + j, none⟩) (hb g e)).trans (hr j v hv)
theorem RowsAt.below {w w' : World} {p : Option Addr} {R : List Ro} (h : RowsAt w p R) {B : Nat} (hB : w.heap.size ≤ B) (hb : Below B w w') : RowsAt w' p R := fun k hk => by
  obtain ⟨g, e, hg, hr⟩ := h k hk
  have hs := hb.size
  refine ⟨g, e, by omega, fun j v hv => ?_⟩
  exact (World.cell?_of_block (a := ⟨g, k * 9 + j, none⟩) (hb.block g (by omega))).trans (hr j v hv)
/-- a row's load, under a name -/
def ld35 (x : Value) : Sem Value := Instr.loadAt 35 x
theorem ld35_is (x : Value) : Instr.loadAt 35 x = ld35 x := rfl
theorem size35 : (Tryd.prog.info? 35).map (·.size) = some 9 := by kernel_rfl
theorem run_ld35 {w : World} {g k : Nat} {r : Ro} (h : w.rangeAt g (k * 9) r.vals) : (ld35 (.pointer (some ⟨g, k * 9, none⟩))).run Tryd.prog w = .ok (.agg #[.int .i64 r.i0, .int .i64 r.i1, .int .i64 r.i2, .int .i64 r.i3, .string r.s4, .string r.acc, .int .i64 r.amt, .string r.s7, .string r.s8]) w :=
  run_loadAt_mid (P := Tryd.prog) w g (k * 9) 35 r.vals _ h Tryd.underlying35 rfl size35
end Go.Proofs.YtgohddimnphbkaaDoor
