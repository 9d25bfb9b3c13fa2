import Derived.Test.YtcafhmlpmbkhkaaGreatDoorW24
import Derived.Test.YtcafhmlpmbkhkaaGreatDoorW09
import Derived.Test.YtcafhmlpmbkhkaaGreatDoorW10
import Derived.Laws.StructEq
import Derived.Test.YtcafhmlpmbkhkaaGreatDoorW01
import Derived.WalkKit
import Derived.ProofKit
import Derived.OpenShut
import Derived.WalkLawsBesides
import Derived.BigCall
import Derived.Lib.LaidTab
import Derived.Below
import Derived.Deep.RegionHeld3
import Derived.Test.YtcafhmlpmbkhkaaGreatDoorW07
import Derived.Lib.ItoaMem
import Derived.Test.YtcafhmlpmbkhkaaGreatDoorW15
import Derived.Test.YtcafhmlpmbkhkaaGreatDoorW25
import Derived.Test.YtcafhmlpmbkhkaaGreatDoorR01
import Derived.Maps.OwnRows
import Derived.Maps.OwnSet
import Derived.Maps.Views
import Derived.Maps.GroupsBeside
import Derived.StringKeys
import Derived.Test.YtcafhmlpmbkhkaaGreatDoorR05
namespace Go.Proofs.YtcafhmlpmbkhkaaGreatDoor
open Go Go.ChangeShapes Go.WideShapes Go.ChangeAt Go.RowKit
set_option linter.unusedVariables false
set_option linter.unusedSimpArgs false
end Go.Proofs.YtcafhmlpmbkhkaaGreatDoor
namespace Go.Proofs.YtcafhmlpmbkhkaaGreatDoor
open Go Go.Shelf Go.ChangeShapes Go.WideShapes Go.ChangeAt Go.RowKit Go.Maps
set_option linter.unusedVariables false
def ldQ (x : Value) : Sem Value := Instr.loadAt 53 x
theorem ldQ_is (x : Value) : Instr.loadAt 53 x = ldQ x := rfl
end Go.Proofs.YtcafhmlpmbkhkaaGreatDoor
namespace Go.Proofs.YtcafhmlpmbkhkaaGreatDoor.Kg
open Go Go.Shelf Go.ChangeShapes Go.WideShapes Go.ChangeAt Go.RowKit Go.Maps
set_option linter.unusedVariables false
set_option linter.unusedSimpArgs false
attribute [local go_sem ↓] ldQ_is
end Go.Proofs.YtcafhmlpmbkhkaaGreatDoor.Kg
namespace Go.Proofs.YtcafhmlpmbkhkaaGreatDoor
open Go Go.Shelf Go.ChangeShapes Go.WideShapes Go.ChangeAt Go.RowKit Go.Maps
set_option linter.unusedVariables false
set_option linter.unusedSimpArgs false
attribute [local go_sem ↓] ldQ_is
end Go.Proofs.YtcafhmlpmbkhkaaGreatDoor
namespace Go.Proofs.YtcafhmlpmbkhkaaGreatDoor.Dy
set_option linter.unusedVariables false
set_option linter.unusedSimpArgs false
end Go.Proofs.YtcafhmlpmbkhkaaGreatDoor.Dy
namespace Go.Proofs.YtcafhmlpmbkhkaaGreatDoor.Dy
open Go.ChangeShapes Go.WideShapes Go.ChangeAt Go.RowKit
set_option linter.unusedVariables false
set_option linter.unusedSimpArgs false
end Go.Proofs.YtcafhmlpmbkhkaaGreatDoor.Dy
namespace Go.Proofs.YtcafhmlpmbkhkaaGreatDoor.Dy
open Go.ChangeShapes Go.WideShapes Go.ChangeAt Go.RowKit
set_option linter.unusedVariables false
set_option linter.unusedSimpArgs false
end Go.Proofs.YtcafhmlpmbkhkaaGreatDoor.Dy
namespace Go.Proofs.YtcafhmlpmbkhkaaGreatDoor.Dy
open Go.ChangeShapes Go.WideShapes Go.ChangeAt Go.RowKit
set_option linter.unusedVariables false
set_option linter.unusedSimpArgs false
end Go.Proofs.YtcafhmlpmbkhkaaGreatDoor.Dy
namespace Go.Proofs.YtcafhmlpmbkhkaaGreatDoor.Dy
open Go.ChangeShapes Go.WideShapes Go.ChangeAt Go.RowKit
set_option linter.unusedVariables false
set_option linter.unusedSimpArgs false
end Go.Proofs.YtcafhmlpmbkhkaaGreatDoor.Dy
namespace Go.Proofs.YtcafhmlpmbkhkaaGreatDoor.Dy
open Go.ChangeShapes Go.WideShapes Go.ChangeAt Go.RowKit
set_option linter.unusedVariables false
set_option linter.unusedSimpArgs false
end Go.Proofs.YtcafhmlpmbkhkaaGreatDoor.Dy
namespace Go.Proofs.YtcafhmlpmbkhkaaGreatDoor.Dy
open Go.ChangeShapes Go.WideShapes Go.ChangeAt Go.RowKit
set_option linter.unusedVariables false
set_option linter.unusedSimpArgs false
end Go.Proofs.YtcafhmlpmbkhkaaGreatDoor.Dy
namespace Go.Proofs.YtcafhmlpmbkhkaaGreatDoor.Dy
open Go.ChangeShapes Go.WideShapes Go.ChangeAt Go.RowKit
set_option linter.unusedVariables false
set_option linter.unusedSimpArgs false
end Go.Proofs.YtcafhmlpmbkhkaaGreatDoor.Dy
namespace Go.Proofs.YtcafhmlpmbkhkaaGreatDoor.Dy
open Go.ChangeShapes Go.WideShapes Go.ChangeAt Go.RowKit
set_option linter.unusedVariables false
set_option linter.unusedSimpArgs false
end Go.Proofs.YtcafhmlpmbkhkaaGreatDoor.Dy
namespace Go.Proofs.YtcafhmlpmbkhkaaGreatDoor
open Go Go.Shelf Go.ChangeShapes Go.WideShapes Go.ChangeAt Go.RowKit Go.Maps
set_option linter.unusedVariables false
set_option linter.unusedSimpArgs false
attribute [local go_sem ↓] ldQ_is
end Go.Proofs.YtcafhmlpmbkhkaaGreatDoor
namespace Go.Proofs.YtcafhmlpmbkhkaaGreatDoor
open Go Go.Shelf Go.ChangeShapes Go.WideShapes Go.ChangeAt Go.RowKit Go.Maps
set_option linter.unusedVariables false
set_option linter.unusedSimpArgs false
attribute [local go_sem ↓] ldQ_is
end Go.Proofs.YtcafhmlpmbkhkaaGreatDoor
namespace Go.Proofs.YtcafhmlpmbkhkaaGreatDoor
open Go Go.Shelf Go.ChangeShapes Go.WideShapes Go.ChangeAt Go.RowKit Go.Maps
set_option linter.unusedVariables false
def ldL (x : Value) : Sem Value := Instr.loadAt 166 x
theorem ldL_is (x : Value) : Instr.loadAt 166 x = ldL x := rfl
end Go.Proofs.YtcafhmlpmbkhkaaGreatDoor
namespace Go.Proofs.YtcafhmlpmbkhkaaGreatDoor
open Go Go.Shelf Go.ChangeShapes Go.WideShapes Go.ChangeAt Go.RowKit Go.Maps
set_option linter.unusedVariables false
set_option linter.unusedSimpArgs false
attribute [local go_sem ↓] ldL_is
end Go.Proofs.YtcafhmlpmbkhkaaGreatDoor
namespace Go.Proofs.YtcafhmlpmbkhkaaGreatDoor
open Go Go.Shelf Go.ChangeShapes Go.WideShapes Go.ChangeAt Go.RowKit Go.Maps
set_option linter.unusedVariables false
set_option linter.unusedSimpArgs false
attribute [local go_sem ↓] ldL_is
end Go.Proofs.YtcafhmlpmbkhkaaGreatDoor
namespace Go.Proofs.YtcafhmlpmbkhkaaGreatDoor
open Go Go.Shelf Go.ChangeShapes Go.WideShapes Go.ChangeAt Go.RowKit Go.Maps
set_option linter.unusedVariables false
set_option linter.unusedSimpArgs false
end Go.Proofs.YtcafhmlpmbkhkaaGreatDoor
namespace Go.Proofs.YtcafhmlpmbkhkaaGreatDoor
open Go Go.Shelf Go.ChangeShapes Go.WideShapes Go.ChangeAt Go.RowKit Go.Maps
set_option linter.unusedVariables false
set_option linter.unusedSimpArgs false
end Go.Proofs.YtcafhmlpmbkhkaaGreatDoor
namespace Go.Proofs.YtcafhmlpmbkhkaaGreatDoor
open Go Go.Shelf Go.ChangeShapes Go.WideShapes Go.ChangeAt Go.RowKit Go.Maps
set_option linter.unusedVariables false
set_option linter.unusedSimpArgs false
end Go.Proofs.YtcafhmlpmbkhkaaGreatDoor
namespace Go.Proofs.YtcafhmlpmbkhkaaGreatDoor
open Go Go.Shelf Go.ChangeShapes Go.WideShapes Go.ChangeAt Go.RowKit Go.Maps
set_option linter.unusedVariables false
set_option linter.unusedSimpArgs false
attribute [local go_sem ↓] ldQ_is
end Go.Proofs.YtcafhmlpmbkhkaaGreatDoor
namespace Go.Proofs.YtcafhmlpmbkhkaaGreatDoor
open Go Go.Shelf Go.ChangeShapes Go.WideShapes Go.ChangeAt Go.RowKit Go.Maps
set_option linter.unusedVariables false
set_option linter.unusedSimpArgs false
def fits64 (z : Int) : Prop := -9223372036854775808 ≤ z ∧ z ≤ 9223372036854775807
def litS (s : ByteArray) : Lit := .string s.data.toList
theorem keyed9 : Keyed Tryz.prog 9 := string_keyed Tryz.underlying9
theorem litS_inj {s t : ByteArray} (h : litS s = litS t) : s = t := by
  unfold litS at h
  injection h with h
  apply ByteArray.ext
  exact Array.toList_inj.1 h
theorem keyS_of {s : ByteArray} (hs : s.size ≤ maxLen) : keyOf Tryz.prog 9 (.string s) = some (litS s) := Go.WideMaps.keyOf_string_mk Tryz.underlying9 hs
theorem grown_of {W W' : World} (h : Below W.heap.size W W') : W.grownBy W' none := ⟨h.os, h.tape, h.output, h.size, fun k hk _ => h.block k hk⟩
end Go.Proofs.YtcafhmlpmbkhkaaGreatDoor
namespace Go.Proofs.YtcafhmlpmbkhkaaGreatDoor
open Go Go.Shelf Go.ChangeShapes Go.WideShapes Go.ChangeAt Go.RowKit Go.Maps
set_option linter.unusedVariables false
structure Po where
  seq : Int
  lin : Int
  day : Int
  kin : Int
  key : ByteArray
  acc : ByteArray
  amt : Int
  tag : ByteArray
  mem : ByteArray
def ldU (x : Value) : Sem Value := Instr.loadAt 63 x
theorem ldU_is (x : Value) : Instr.loadAt 63 x = ldU x := rfl
end Go.Proofs.YtcafhmlpmbkhkaaGreatDoor
namespace Go.Proofs.YtcafhmlpmbkhkaaGreatDoor
open Go Go.Shelf Go.ChangeShapes Go.WideShapes Go.ChangeAt Go.RowKit Go.Maps
set_option linter.unusedVariables false
set_option linter.unusedSimpArgs false
attribute [local go_sem ↓] ldU_is
end Go.Proofs.YtcafhmlpmbkhkaaGreatDoor
namespace Go.Proofs.YtcafhmlpmbkhkaaGreatDoor
open Go Go.Shelf Go.ChangeShapes Go.WideShapes Go.ChangeAt Go.RowKit Go.Maps
set_option linter.unusedVariables false
set_option linter.unusedSimpArgs false
attribute [local go_sem ↓] ldU_is
def cnt (fr tt : Int) (r : Po) : Bool := decide (fr ≤ r.day) && decide (r.day ≤ tt)
end Go.Proofs.YtcafhmlpmbkhkaaGreatDoor
namespace Go.Proofs.YtcafhmlpmbkhkaaGreatDoor
open Go Go.Shelf Go.ChangeShapes Go.WideShapes Go.ChangeAt Go.RowKit Go.Maps
set_option linter.unusedVariables false
set_option linter.unusedSimpArgs false
end Go.Proofs.YtcafhmlpmbkhkaaGreatDoor
namespace Go.Proofs.YtcafhmlpmbkhkaaGreatDoor
open Go Go.Shelf Go.ChangeShapes Go.WideShapes Go.ChangeAt Go.RowKit Go.Maps
set_option linter.unusedVariables false
set_option linter.unusedSimpArgs false
attribute [local go_sem ↓] ldL_is
end Go.Proofs.YtcafhmlpmbkhkaaGreatDoor
namespace Go.Proofs.YtcafhmlpmbkhkaaGreatDoor
open Go Go.Shelf Go.ChangeShapes Go.WideShapes Go.ChangeAt Go.RowKit Go.Maps
set_option linter.unusedVariables false
set_option linter.unusedSimpArgs false
def ldP (x : Value) : Sem Value := Instr.loadAt 130 x
theorem ldP_is (x : Value) : Instr.loadAt 130 x = ldP x := rfl
attribute [local go_sem ↓] ldP_is
end Go.Proofs.YtcafhmlpmbkhkaaGreatDoor
namespace Go.Proofs.YtcafhmlpmbkhkaaGreatDoor
open Go Go.Shelf Go.ChangeShapes Go.WideShapes Go.ChangeAt Go.RowKit Go.Maps
set_option linter.unusedVariables false
set_option linter.unusedSimpArgs false
def cvA (a : Ch.Ac) : Value := .agg #[.string (Ch.txN a.nm), .int .i64 a.ty, .int .i64 a.dy, .bool a.cl]
def ldA (x : Value) : Sem Value := Instr.loadAt 139 x
theorem ldA_is (x : Value) : Instr.loadAt 139 x = ldA x := rfl
theorem sizA : (Tryz.prog.info? 139).map (·.size) = some 4 := by kernel_rfl
attribute [local go_sem ↓] ldA_is
end Go.Proofs.YtcafhmlpmbkhkaaGreatDoor
namespace Go.Proofs.YtcafhmlpmbkhkaaGreatDoor
open Go Go.Shelf Go.ChangeShapes Go.WideShapes Go.ChangeAt Go.RowKit Go.Maps
set_option linter.unusedVariables false
set_option linter.unusedSimpArgs false
theorem gd_own {C B t s n : Nat} {W W' : World} {v : Value} {xs : List Value} (h : W.ownsRow B t s v n xs) (hg : Gd C W W') (h1 : t ≠ 192) (h2 : t ≠ 93) : W'.ownsRow B t s v n xs := row_keep h fun g hgv => by
  obtain ⟨ys, hy⟩ := own_obj h hgv
  exact hg.kept _ _ _ _ hy h1 h2
theorem grown_bel {W W' : World} {B b : Nat} (h : W.grownBy W' (some b)) (hB : B ≤ b) (hb : b < W.heap.size) : Below B W W' := ⟨h.os, h.tape, h.output, h.size, fun k hk => h.block k (by omega) (fun e => by have := Option.some.inj e; omega)⟩
end Go.Proofs.YtcafhmlpmbkhkaaGreatDoor
namespace Go.Proofs.YtcafhmlpmbkhkaaGreatDoor
open Go Go.Shelf Go.ChangeShapes Go.WideShapes Go.ChangeAt Go.RowKit Go.Maps
set_option linter.unusedVariables false
set_option linter.unusedSimpArgs false
set_option maxHeartbeats 1000000 in
theorem rck_yes (a : Int) (w : World) (h : -9223372036854775807 ≤ a) : Calls Tryz.prog 127 #[.int .i64 a] w fun e w' => e = .returned (.int .i64 0) ∧ w' = w := by
  have q : (a == -9223372036854775808) = false := beq_eq_false_iff_ne.2 (by omega)
  have qn : (a != -9223372036854775808) = true := by rw [bne_iff_ne]; omega
  go_enter Tryz.func127, Tryz.ntmps127
  go_wp2
  go_ret
  exact ⟨rfl, rfl⟩
set_option maxHeartbeats 1000000 in
theorem rck_no (w : World) : Calls Tryz.prog 127 #[.int .i64 (-9223372036854775808)] w fun e w' => e = .returned (.int .i64 10) ∧ w' = w := by
  go_enter Tryz.func127, Tryz.ntmps127
  go_wp2
  go_ret
  exact ⟨rfl, rfl⟩
end Go.Proofs.YtcafhmlpmbkhkaaGreatDoor
