/- The keeper's numbers: behind (70), Book.id (14). -/
import Derived.Test.YtfpbljfebjochaaGreatDoorRgs
import Derived.Lib.LaidTab
import Derived.Deep.RegionHeld3
import Derived.Laws.StructEq
import Derived.Sort.Grow
namespace Go.Proofs.YtfpbljfebjochaaGreatDoor.Kg
open Go Go.Shelf Go.ChangeShapes Go.WideShapes Go.ChangeAt Go.RowKit Go.Maps
set_option linter.unusedVariables false
set_option linter.unusedSimpArgs false
theorem bal {w W : World} (h : Below w.heap.size w W) (o : Obj) : Below w.heap.size w (W.alloc o) := h.alloc h.size o
/-- the block 1 is there -/
def Pw (w : World) : Prop := 1 < w.heap.size
theorem Pw.lt {w : World} (h : Pw w) : 1 < w.heap.size := h
theorem Pw.keep {w w' : World} (h : Pw w) (hb : w'.heap[1]? = w.heap[1]?) : Pw w' := by
  have h1 : w.heap[1]? = some (w.heap[1]'h) := Array.getElem?_eq_getElem h
  rw [h1] at hb
  exact (Array.getElem?_eq_some_iff.1 hb).1
theorem Pw.below {w w' : World} (h : Pw w) (hb : Below w.heap.size w w') : Pw w' := Nat.lt_of_lt_of_le h hb.size
set_option maxHeartbeats 1000000 in
theorem behind_any (id : Nat) (hid : id < 1000) (w : World) : Calls Tryz.prog 70 #[.int .i64 (id : Int)] w fun e w' => e = .returned (.int .i64 ((id + 100000 : Nat) : Int)) ∧ w' = w := by
  go_enter Tryz.func70, Tryz.ntmps70
  go_wp2_with fail
  go_ret
  exact ⟨by simp, rfl⟩
set_option maxHeartbeats 1000000 in
theorem id_any (bk k : Nat) (hk : k < 1000) (w : World) (h : w.cell? ⟨bk, 0, none⟩ = some (.int .i64 (k : Int))) (hf : w.frozen? ⟨bk, 0, none⟩ = false) : Calls Tryz.prog 14 #[.pointer (some ⟨bk, 0, none⟩)] w fun e w' => e = .returned (.int .i64 ((k : Int) + 1)) ∧ w' = w.setCell ⟨bk, 0, none⟩ (.int .i64 ((k : Int) + 1)) := by
  have h2 : (w.setCell ⟨bk, 0, none⟩ (.int .i64 ((k : Int) + 1))).cell? ⟨bk, 0, none⟩ = some (.int .i64 ((k : Int) + 1)) := World.cell?_setCell_same _ _ _ h
  go_enter Tryz.func14, Tryz.ntmps14
  go_wp2_with fail
  go_ret
  exact ⟨rfl, rfl⟩
end Go.Proofs.YtfpbljfebjochaaGreatDoor.Kg
