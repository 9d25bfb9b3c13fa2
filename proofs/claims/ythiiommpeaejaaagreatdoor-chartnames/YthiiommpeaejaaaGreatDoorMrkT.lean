/- The keeper's marks that are texts: text (174), markTexts (87), behind (88), sameTexts (235). -/
import Derived.Test.YthiiommpeaejaaaGreatDoorRowT
import Derived.Test.YthiiommpeaejaaaGreatDoorShelf
import Derived.Lib.LaidTab
import Derived.Sort.Grow
import Derived.Lib.ItoaLen
import Derived.Shelf.SlSortCmp.QuietGrown
import Derived.Deep.RegionHeld3
namespace Go.Proofs.YthiiommpeaejaaaGreatDoor
open Go Go.ChangeShapes Go.WideShapes Go.ChangeAt Go.RowKit Go.Sort
set_option linter.unusedVariables false
/-- the powers of ten lie in their variable -/
def Pw (w : World) : Prop := Lib.TabIs Tryz.prog w "internal/strconv.uint64pow10" .u64 Lib.pow10Tab
theorem pw_no : Tryz.prog.globalNamed "internal/strconv.uint64pow10" = some 3 := by kernel_rfl
theorem Pw.keep {w w' : World} (h : Pw w) (hb : w'.heap[3]? = w.heap[3]?) : Pw w' := by
  unfold Pw Lib.TabIs World.var? at h ⊢
  rw [pw_no] at h ⊢
  simp only [Option.bind_some] at h ⊢
  rw [hb]
  exact h
theorem Pw.lt {w : World} (h : Pw w) : 3 < w.heap.size := by
  unfold Pw Lib.TabIs World.var? at h
  rw [pw_no] at h
  simp only [Option.bind_some] at h
  rcases Nat.lt_or_ge 3 w.heap.size with h' | h'
  · exact h'
  · rw [Array.getElem?_eq_none h'] at h; cases h
theorem Pw.below {w w' : World} (h : Pw w) (hb : Below w.heap.size w w') : Pw w' := h.keep (hb.block 3 h.lt)
/-- a world some draws later, with some blocks behind it -/
def Grn (w w' : World) : Prop := ∃ q os, w' = grow (w.drewN q) os
theorem Grn.trans {a b c : World} (h : Grn a b) (k : Grn b c) : Grn a c := by
  obtain ⟨q, os, rfl⟩ := h
  obtain ⟨q', os', rfl⟩ := k
  exact ⟨q + q', os ++ os', by show grow (grow ((a.drewN q).drewN q') os) os' = _; rw [grow_grow, World.drewN_drewN]⟩
theorem Grn.refl (w : World) : Grn w w := ⟨0, #[], by rw [grow_empty]; rfl⟩
theorem Grn.below {w w' : World} (h : Grn w w') : Below w.heap.size w w' := by
  obtain ⟨q, os, rfl⟩ := h
  exact ⟨rfl, rfl, rfl, by simp, fun k hk => heap_grow_old (w.drewN q) os hk⟩
/-- a number's digits -/
def itS (n : Nat) : ByteArray := ⟨(Lib.itoa (n : Int)).toArray⟩
theorem itoa_any (n : Nat) (hn : n < 1000000) (w : World) (h : Pw w) : Calls Tryz.prog 231 #[.int .i64 (n : Int)] w fun e w' => e = .returned (.string (itS n)) ∧ Grn w w' :=
  (Tryz.strconv_Itoa (n : Int) (by omega) (by omega) w h)
theorem itS_size (n : Nat) (hn : n < 1000000) : (itS n).size ≤ 21 := by
  have h := Lib.itoa_length_le (n : Int) (by omega) (by omega)
  simpa [itS, ByteArray.size] using h
/-- a mark that is a text -/
def mkS (id k : Nat) : ByteArray := (⟨#[109, 97, 114, 107, 32]⟩ : ByteArray) ++ itS id ++ (⟨#[32]⟩ : ByteArray) ++ itS k
set_option maxHeartbeats 1000000 in
theorem text_any (id k : Nat) (hid : id < 1000000) (hk : k < 1000000) (w : World) (h : Pw w) : Calls Tryz.prog 174 #[.int .i64 (id : Int), .int .i64 (k : Int)] w fun e w' => e = .returned (.string (mkS id k)) ∧ Grn w w' := by
  have d1 := hide (itoa_any id hid w h)
  have HP := hide h
  have s1 := itS_size id hid
  have s2 := itS_size k hk
  have n1 : ¬ 9223372036854775807 < 5 + (itS id).size := by omega
  have n2 : ¬ 9223372036854775807 < 5 + (itS id).size + 1 := by omega
  have n3 : ¬ 9223372036854775807 < 5 + (itS id).size + 1 + (itS k).size := by omega
  clear h
  go_enter Tryz.func174, Tryz.ntmps174
  go_wp2_with fail
  refine (unhide d1).mono ?_
  rintro e w1 ⟨rfl, hg⟩
  have G1 := hide hg
  have d2 := hide (itoa_any k hk w1 ((unhide HP).below hg.below))
  clear hg
  go_wp2_with fail
  refine (unhide d2).mono ?_
  rintro e w2 ⟨rfl, hg⟩
  have G2 := hide hg
  clear hg
  go_wp2_with fail
  go_ret
  exact ⟨rfl, (unhide G1).trans (unhide G2)⟩
set_option maxHeartbeats 1000000 in
theorem mark_any (id k : Nat) (hid : id < 1000000) (hk : k < 1000000) (w : World) (h : Pw w) : Calls Tryz.prog 87 #[.int .i64 (id : Int), .int .i64 (k : Int)] w fun e w' => e = .returned (.string (mkS id k)) ∧ Grn w w' := by
  have d := hide (text_any id k hid hk w h)
  clear h
  go_enter Tryz.func87, Tryz.ntmps87
  go_wp2_with fail
  refine (unhide d).mono ?_
  rintro e w1 ⟨rfl, hg⟩
  have G1 := hide hg
  clear hg
  go_wp2_with fail
  go_ret
  exact ⟨rfl, unhide G1⟩
set_option maxHeartbeats 1000000 in
theorem behind_any (id : Nat) (hid : id < 1000) (w : World) : Calls Tryz.prog 88 #[.int .i64 (id : Int)] w fun e w' => e = .returned (.int .i64 ((id + 100000 : Nat) : Int)) ∧ w' = w := by
  go_enter Tryz.func88, Tryz.ntmps88
  go_wp2_with fail
  go_ret
  exact ⟨by simp, rfl⟩
set_option maxHeartbeats 1000000 in
theorem sameT (a : ByteArray) (w : World) : Calls Tryz.prog 235 #[.string a, .string a] w fun e w' => e = .returned (.bool true) ∧ w' = w := by
  go_enter Tryz.func235, Tryz.ntmps235
  go_wp2_with fail
  go_ret
  exact ⟨by simp, rfl⟩
end Go.Proofs.YthiiommpeaejaaaGreatDoor
