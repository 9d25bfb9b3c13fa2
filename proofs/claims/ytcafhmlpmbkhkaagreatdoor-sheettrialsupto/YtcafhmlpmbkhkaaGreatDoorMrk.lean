/- The keeper's marks: text (156), behind (171), Book.id (95); quiet regions. -/
import Derived.Test.YtcafhmlpmbkhkaaGreatDoorRgs
import Derived.Test.YtcafhmlpmbkhkaaGreatDoorShelf
import Derived.Lib.LaidTab
import Derived.Sort.Grow
import Derived.Lib.ItoaLen
import Derived.Shelf.SlSortCmp.QuietGrown
import Derived.Deep.RegionHeld3
namespace Go.Proofs.YtcafhmlpmbkhkaaGreatDoor.Kg
open Go Go.ChangeShapes Go.WideShapes Go.ChangeAt Go.RowKit Go.Sort
set_option linter.unusedVariables false
theorem bal {w W : World} (h : Below w.heap.size w W) (o : Obj) : Below w.heap.size w (W.alloc o) := h.alloc h.size o
/-- the powers of ten lie in their variable -/
def Pw (w : World) : Prop := Lib.TabIs Tryz.prog w "internal/strconv.uint64pow10" .u64 Lib.pow10Tab
theorem pw_no : Tryz.prog.globalNamed "internal/strconv.uint64pow10" = some 4 := by kernel_rfl
theorem Pw.keep {w w' : World} (h : Pw w) (hb : w'.heap[4]? = w.heap[4]?) : Pw w' := by
  unfold Pw Lib.TabIs World.var? at h ⊢
  rw [pw_no] at h ⊢
  simp only [Option.bind_some] at h ⊢
  rw [hb]
  exact h
theorem Pw.lt {w : World} (h : Pw w) : 4 < w.heap.size := by
  unfold Pw Lib.TabIs World.var? at h
  rw [pw_no] at h
  simp only [Option.bind_some] at h
  rcases Nat.lt_or_ge 4 w.heap.size with h' | h'
  · exact h'
  · rw [Array.getElem?_eq_none h'] at h; cases h
theorem Pw.below {w w' : World} (h : Pw w) (hb : Below w.heap.size w w') : Pw w' := h.keep (hb.block 4 h.lt)
/-- a world some draws later, with some blocks behind it -/
def Grn (w w' : World) : Prop := ∃ q os, w' = grow (w.drewN q) os
theorem Grn.trans {a b c : World} (h : Grn a b) (k : Grn b c) : Grn a c := by
  obtain ⟨q, os, rfl⟩ := h
  obtain ⟨q', os', rfl⟩ := k
  exact ⟨q + q', os ++ os', by show grow (grow ((a.drewN q).drewN q') os) os' = _; rw [grow_grow, World.drewN_drewN]⟩
theorem Grn.refl (w : World) : Grn w w := ⟨0, #[], by rw [grow_empty]; rfl⟩
theorem Grn.below {w w' : World} (h : Grn w w') : Below w.heap.size w w' := by
  obtain ⟨q, os, rfl⟩ := h
  exact ⟨rfl, rfl, rfl, by simp, fun k hk => heap_grow_old (w.drewN q) os hk⟩
/-- a number's digits -/
def itS (n : Nat) : ByteArray := ⟨(Lib.itoa (n : Int)).toArray⟩
theorem itoa_any (n : Nat) (hn : n < 1000000) (w : World) (h : Pw w) : Calls Tryz.prog 167 #[.int .i64 (n : Int)] w fun e w' => e = .returned (.string (itS n)) ∧ Grn w w' :=
  (Tryz.strconv_Itoa (n : Int) (by omega) (by omega) w h)
theorem itS_size (n : Nat) (hn : n < 1000000) : (itS n).size ≤ 21 := by
  have h := Lib.itoa_length_le (n : Int) (by omega) (by omega)
  simpa [itS, ByteArray.size] using h
/-- a mark that is a text -/
def mkS (id k : Nat) : ByteArray := (⟨#[109, 97, 114, 107, 32]⟩ : ByteArray) ++ itS id ++ (⟨#[32]⟩ : ByteArray) ++ itS k
set_option maxHeartbeats 1000000 in
theorem text_any (id k : Nat) (hid : id < 1000000) (hk : k < 1000000) (w : World) (h : Pw w) : Calls Tryz.prog 133 #[.int .i64 (id : Int), .int .i64 (k : Int)] w fun e w' => e = .returned (.string (mkS id k)) ∧ Grn w w' := by
  have d1 := hide (itoa_any id hid w h)
  have HP := hide h
  have s1 := itS_size id hid
  have s2 := itS_size k hk
  have n1 : ¬ 9223372036854775807 < 5 + (itS id).size := by omega
  have n2 : ¬ 9223372036854775807 < 5 + (itS id).size + 1 := by omega
  have n3 : ¬ 9223372036854775807 < 5 + (itS id).size + 1 + (itS k).size := by omega
  clear h
  go_enter Tryz.func133, Tryz.ntmps133
  go_wp2_with fail
  refine (unhide d1).mono ?_
  rintro e w1 ⟨rfl, hg⟩
  have G1 := hide hg
  have d2 := hide (itoa_any k hk w1 ((unhide HP).below hg.below))
  clear hg
  go_wp2_with fail
  refine (unhide d2).mono ?_
  rintro e w2 ⟨rfl, hg⟩
  have G2 := hide hg
  clear hg
  go_wp2_with fail
  go_ret
  exact ⟨rfl, (unhide G1).trans (unhide G2)⟩
structure Bel (w : World) where
  W : World
  h : Below w.heap.size w W
@[reducible] def belInh (w : World) : Inhabited (Bel w) := ⟨⟨w, Below.refl _ _⟩⟩
attribute [instance] belInh
theorem wp_region_quiet_below {id : Nat} {Q : Exit → Act → World → Prop} {a : Act} {w : World} {l : List Oper} (hm : Tryz.prog.follows .mixedOrders = true) (hB : Region.lexB .any l.toArray = true)
    (h : wpQuiet Tryz.prog l.toArray (fun w' => ∃ p : Bel w, w' = p.W) (fun a' => ∀ w', (∃ p : Bel w, w' = p.W) → Q .normal a' w') l a) : (Code.region id l.toArray true).wp Tryz.prog Q a w :=
  wp_region_quiet (C := fun w' => ∃ p : Bel w, w' = p.W) hm hB ⟨⟨w.drew, below_drewN (Below.refl _ w) 1⟩, rfl⟩ (by simpa using h)
end Go.Proofs.YtcafhmlpmbkhkaaGreatDoor.Kg
