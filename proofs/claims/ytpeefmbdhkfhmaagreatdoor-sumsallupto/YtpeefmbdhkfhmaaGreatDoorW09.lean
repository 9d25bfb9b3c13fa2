import Derived.Shelf.SlIter.Nil
import Derived.Shelf.SortM.Plain
import Derived.Shelf.SortM.SortNone
import Derived.Ground.GgzProg
import Derived.Ground.SlgmProg
import Derived.Test.YtpeefmbdhkfhmaaGreatDoorProg
import Derived.Test.YtpeefmbdhkfhmaaGreatDoorW08
import Derived.Sort.KeysCollected
namespace Go.Proofs
open Go.RowKit Go.Maps Go.Sort Go.Shelf

def Tryz.keys168_ren : Go.Shelf.Ren := ⟨fun | 7 => 168 | 10 => 227 | n => n, fun | 23 => 78 | 26 => 9 | 3 => 2 | 28 => 105 | 0 => 0 | 27 => 104 | 33 => 99 | 4 => 4 | n => n, fun | n => n⟩
theorem Tryz.keys168 : Go.Proofs.SlLaysZ.n7 Tryz.prog Tryz.keys168_ren := {
  mixed := by kernel_rfl
  f7 := ⟨Tryz.f168.name, by decide, Tryz.func168.trans (congrArg some (by kernel_rfl))⟩
  f10 := ⟨Tryz.f227.name, by decide, Tryz.func227.trans (congrArg some (by kernel_rfl))⟩
  t0 := Tryz.underlying0
  a0 := Tryz.isAgg0
  z0 := Tryz.sizeOf0
  v0 := Tryz.zeroValue0
  t4 := Tryz.underlying4
  a4 := Tryz.isAgg4
  z4 := Tryz.sizeOf4
  v4 := Tryz.zeroValue4
  t23 := Tryz.underlying78
  a23 := Tryz.isAgg78
  z23 := Tryz.sizeOf78
  v23 := Tryz.zeroValue78
  t26 := Tryz.underlying9
  a26 := Tryz.isAgg9
  z26 := Tryz.sizeOf9
  v26 := Tryz.zeroValue9
  t27 := Tryz.underlying104
  a27 := Tryz.isAgg104
  z27 := Tryz.sizeOf104
  v27 := Tryz.zeroValue104
  t28 := Tryz.underlying105
  a28 := Tryz.isAgg105
  z28 := Tryz.sizeOf105
  v28 := Tryz.zeroValue105
  t33 := Tryz.underlying99
  a33 := Tryz.isAgg99
  z33 := Tryz.sizeOf99
  v33 := Tryz.zeroValue99 }
def Tryz.sorted167_ren : Go.Shelf.Ren := ⟨fun | 6 => 167 | 8 => 225 | 9 => 226 | 11 => 259 | 13 => 261 | 12 => 260 | 23 => 279 | 24 => 280 | 14 => 270 | 15 => 271 | 16 => 272 | 17 => 273 | 18 => 274 | 19 => 275 | 20 => 276 | 21 => 277 | 22 => 278 | 25 => 292 | 26 => 293 | 27 => 294 | 28 => 295 | 29 => 296 | 30 => 297 | 31 => 303 | n => n, fun | 26 => 9 | 28 => 105 | 24 => 83 | 0 => 0 | 3 => 3 | 37 => 267 | 48 => 293 | 50 => 192 | 4 => 4 | 40 => 304 | 39 => 303 | 45 => 308 | 5 => 5 | 9 => 9 | 51 => 317 | 55 => 321 | 57 => 323 | 58 => 324 | 33 => 99 | n => n, fun | n => n⟩
theorem Tryz.sorted167 : Go.Proofs.SlLaysZ.n6 Tryz.prog Tryz.sorted167_ren := {
  mixed := by kernel_rfl
  f6 := ⟨Tryz.f167.name, by decide, Tryz.func167.trans (congrArg some (by kernel_rfl))⟩
  f8 := ⟨Tryz.f225.name, by decide, Tryz.func225.trans (congrArg some (by kernel_rfl))⟩
  f11 := ⟨Tryz.f259.name, by decide, Tryz.func259.trans (congrArg some (by kernel_rfl))⟩
  t0 := Tryz.underlying0
  a0 := Tryz.isAgg0
  z0 := Tryz.sizeOf0
  v0 := Tryz.zeroValue0
  t24 := Tryz.underlying83
  a24 := Tryz.isAgg83
  z24 := Tryz.sizeOf83
  v24 := Tryz.zeroValue83
  t26 := Tryz.underlying9
  a26 := Tryz.isAgg9
  z26 := Tryz.sizeOf9
  v26 := Tryz.zeroValue9
  t28 := Tryz.underlying105
  a28 := Tryz.isAgg105
  z28 := Tryz.sizeOf105
  v28 := Tryz.zeroValue105
  i26 := by kernel_rfl }
def Tryz.sort226_ren : Go.Shelf.Ren := ⟨fun | 6 => 226 | 8 => 261 | 9 => 260 | 19 => 279 | 20 => 280 | 21 => 270 | 22 => 271 | 23 => 272 | 24 => 273 | 25 => 274 | 26 => 275 | 27 => 276 | 28 => 277 | 29 => 278 | 36 => 292 | 31 => 293 | 32 => 294 | 37 => 295 | 38 => 296 | 39 => 297 | 41 => 303 | n => n, fun | 27 => 83 | 29 => 9 | 3 => 3 | 32 => 267 | 26 => 83 | 0 => 0 | 44 => 293 | 46 => 192 | 4 => 4 | 36 => 304 | 35 => 303 | 41 => 308 | 5 => 5 | 9 => 9 | 53 => 317 | 57 => 321 | 63 => 323 | 64 => 324 | n => n, fun | n => n⟩
theorem Tryz.sort226 : Go.Proofs.SlLaysM.n6 Tryz.prog Tryz.sort226_ren := {
  mixed := by kernel_rfl
  f6 := ⟨Tryz.f226.name, by decide, Tryz.func226.trans (congrArg some (by kernel_rfl))⟩
  f8 := Tryz.func261.trans (congrArg some (by kernel_rfl))
  f9 := ⟨Tryz.f260.name, by decide, Tryz.func260.trans (congrArg some (by kernel_rfl))⟩
  f19 := Tryz.func279.trans (congrArg some (by kernel_rfl))
  f20 := Tryz.func280.trans (congrArg some (by kernel_rfl))
  f21 := ⟨Tryz.f270.name, by decide, Tryz.func270.trans (congrArg some (by kernel_rfl))⟩
  f22 := ⟨Tryz.f271.name, by decide, Tryz.func271.trans (congrArg some (by kernel_rfl))⟩
  f23 := ⟨Tryz.f272.name, by decide, Tryz.func272.trans (congrArg some (by kernel_rfl))⟩
  f24 := ⟨Tryz.f273.name, by decide, Tryz.func273.trans (congrArg some (by kernel_rfl))⟩
  f25 := ⟨Tryz.f274.name, by decide, Tryz.func274.trans (congrArg some (by kernel_rfl))⟩
  f26 := ⟨Tryz.f275.name, by decide, Tryz.func275.trans (congrArg some (by kernel_rfl))⟩
  f27 := ⟨Tryz.f276.name, by decide, Tryz.func276.trans (congrArg some (by kernel_rfl))⟩
  f28 := ⟨Tryz.f277.name, by decide, Tryz.func277.trans (congrArg some (by kernel_rfl))⟩
  f29 := ⟨Tryz.f278.name, by decide, Tryz.func278.trans (congrArg some (by kernel_rfl))⟩
  f31 := Tryz.func293.trans (congrArg some (by kernel_rfl))
  f32 := Tryz.func294.trans (congrArg some (by kernel_rfl))
  f36 := ⟨Tryz.f292.name, by decide, Tryz.func292.trans (congrArg some (by kernel_rfl))⟩
  f37 := ⟨Tryz.f295.name, by decide, Tryz.func295.trans (congrArg some (by kernel_rfl))⟩
  f38 := ⟨Tryz.f296.name, by decide, Tryz.func296.trans (congrArg some (by kernel_rfl))⟩
  f39 := ⟨Tryz.f297.name, by decide, Tryz.func297.trans (congrArg some (by kernel_rfl))⟩
  f41 := ⟨Tryz.f303.name, by decide, Tryz.func303.trans (congrArg some (by kernel_rfl))⟩
  t0 := Tryz.underlying0
  a0 := Tryz.isAgg0
  z0 := Tryz.sizeOf0
  v0 := Tryz.zeroValue0
  t3 := Tryz.underlying3
  a3 := Tryz.isAgg3
  z3 := Tryz.sizeOf3
  v3 := Tryz.zeroValue3
  t4 := Tryz.underlying4
  a4 := Tryz.isAgg4
  z4 := Tryz.sizeOf4
  v4 := Tryz.zeroValue4
  t5 := Tryz.underlying5
  a5 := Tryz.isAgg5
  z5 := Tryz.sizeOf5
  v5 := Tryz.zeroValue5
  t9 := Tryz.underlying9
  a9 := Tryz.isAgg9
  z9 := Tryz.sizeOf9
  v9 := Tryz.zeroValue9
  t26 := Tryz.underlying83
  a26 := Tryz.isAgg83
  z26 := Tryz.sizeOf83
  v26 := Tryz.zeroValue83
  t27 := Tryz.underlying83
  a27 := Tryz.isAgg83
  z27 := Tryz.sizeOf83
  v27 := Tryz.zeroValue83
  t29 := Tryz.underlying9
  a29 := Tryz.isAgg9
  z29 := Tryz.sizeOf9
  v29 := Tryz.zeroValue9
  t32 := Tryz.underlying267
  a32 := Tryz.isAgg267
  z32 := Tryz.sizeOf267
  v32 := Tryz.zeroValue267
  t35 := Tryz.underlying303
  a35 := Tryz.isAgg303
  z35 := Tryz.sizeOf303
  v35 := Tryz.zeroValue303
  t36 := Tryz.underlying304
  a36 := Tryz.isAgg304
  z36 := Tryz.sizeOf304
  v36 := Tryz.zeroValue304
  t41 := Tryz.underlying308
  a41 := Tryz.isAgg308
  z41 := Tryz.sizeOf308
  v41 := Tryz.zeroValue308
  t44 := Tryz.underlying293
  a44 := Tryz.isAgg293
  z44 := Tryz.sizeOf293
  v44 := Tryz.zeroValue293
  t46 := Tryz.underlying192
  a46 := Tryz.isAgg192
  z46 := Tryz.sizeOf192
  v46 := Tryz.zeroValue192
  t53 := Tryz.underlying317
  a53 := Tryz.isAgg317
  z53 := Tryz.sizeOf317
  v53 := Tryz.zeroValue317
  t57 := Tryz.underlying321
  a57 := Tryz.isAgg321
  z57 := Tryz.sizeOf321
  v57 := Tryz.zeroValue321
  t63 := Tryz.underlying323
  a63 := Tryz.isAgg323
  z63 := Tryz.sizeOf323
  v63 := Tryz.zeroValue323
  t64 := Tryz.underlying324
  a64 := Tryz.isAgg324
  z64 := Tryz.sizeOf324
  v64 := Tryz.zeroValue324 }
def Tryz.keys169_ren : Go.Shelf.Ren := ⟨fun | 7 => 169 | 10 => 228 | n => n, fun | 23 => 107 | 26 => 9 | 3 => 3 | 28 => 105 | 0 => 0 | 27 => 104 | 33 => 99 | 4 => 4 | n => n, fun | n => n⟩
theorem Tryz.keys169 : Go.Proofs.SlLaysZ.n7 Tryz.prog Tryz.keys169_ren := {
  mixed := by kernel_rfl
  f7 := ⟨Tryz.f169.name, by decide, Tryz.func169.trans (congrArg some (by kernel_rfl))⟩
  f10 := ⟨Tryz.f228.name, by decide, Tryz.func228.trans (congrArg some (by kernel_rfl))⟩
  t0 := Tryz.underlying0
  a0 := Tryz.isAgg0
  z0 := Tryz.sizeOf0
  v0 := Tryz.zeroValue0
  t4 := Tryz.underlying4
  a4 := Tryz.isAgg4
  z4 := Tryz.sizeOf4
  v4 := Tryz.zeroValue4
  t23 := Tryz.underlying107
  a23 := Tryz.isAgg107
  z23 := Tryz.sizeOf107
  v23 := Tryz.zeroValue107
  t26 := Tryz.underlying9
  a26 := Tryz.isAgg9
  z26 := Tryz.sizeOf9
  v26 := Tryz.zeroValue9
  t27 := Tryz.underlying104
  a27 := Tryz.isAgg104
  z27 := Tryz.sizeOf104
  v27 := Tryz.zeroValue104
  t28 := Tryz.underlying105
  a28 := Tryz.isAgg105
  z28 := Tryz.sizeOf105
  v28 := Tryz.zeroValue105
  t33 := Tryz.underlying99
  a33 := Tryz.isAgg99
  z33 := Tryz.sizeOf99
  v33 := Tryz.zeroValue99 }

theorem Tryz.sorts167 (m : Nat) : AnyZ.SortsIn Tryz.prog Tryz.sorted167_ren Fence.wide m :=
  ⟨fun blk off cap ss W hH hblk hsz => callsIn_wide.2 (AnyM.slices_Sort_string Tryz.sort226 blk off cap ss W hH hblk hsz),
   fun p cap W => callsIn_wide.2 (AnyM.slices_Sort_string_none Tryz.sort226 p cap W)⟩

theorem Tryz.maps_Keys_168 (mb : Option Nat) (W : World) : CallsIn Fence.wide 5 Tryz.prog 168 #[.map mb] W fun e w' => e = .returned (.func (.func 227) #[] #[.pointer (some ⟨W.heap.size, 0, none⟩)]) ∧ w' = W.alloc (.cells #[.map mb] 78) :=
  AnyZ.keys_in Tryz.keys168 Fence.wide 5 trivial rfl mb W

set_option maxHeartbeats 1000000 in
theorem Tryz.slices_Sorted_keys_167_168 {H : Type} (b nn : Nat) (D0 : DataW H) (R : Value → Option (DataW H × List MemPlace)) (w : World) (hown : w.ownsMap Tryz.prog 9 R b nn D0) (hmax : Maps.size D0 ≤ maxLen) (hbytes : Maps.size D0 * 16 ≤ 140737488355328) :
    CallsIn Fence.wide 5 Tryz.prog 167 #[.func (.func 227) #[] #[.pointer (some ⟨w.heap.size, 0, none⟩)]] (w.alloc (.cells #[.map (some b)] 78)) fun e w' => ∃ (v : Value) (ss : List (List UInt8)), e = .returned v ∧ ss.Perm (strKeys D0) ∧
      w'.ownsRow (w.alloc (.cells #[.map (some b)] 78)).heap.size 9 1 v ss.length ((ss.mergeSort (fun x y => decide (x ≤ y))).map encStr) ∧ (v = .slice none 0 0 ↔ ss = []) ∧ Below (w.alloc (.cells #[.map (some b)] 78)).heap.size (w.alloc (.cells #[.map (some b)] 78)) w' := by
  have hbl := hown.lt
  have hseq : SeqGives Fence.wide 2 Tryz.prog 227 #[.pointer (some ⟨w.heap.size, 0, none⟩)] encStr (fun ss => ss.Perm (strKeys D0)) (Maps.size D0) (w.alloc (.cells #[.map (some b)] 78)) :=
    AnyZ.keys_gives (ρ := Tryz.keys168_ren) { Tryz.keys168 with } Fence.wide _ trivial rfl (by omega) w.heap.size b nn D0 _ (by simp) (by simp) (by
      obtain ⟨es, clock, hb, Ft, hs, hD⟩ := hown
      exact ⟨es, clock, (Below.heap_alloc _ _ b hbl).trans hb, Ft, hs, hD⟩)
  exact AnyZ.sorted_in Tryz.sorted167 Fence.wide 5 trivial trivial trivial trivial rfl (by omega) (Tryz.sorts167 _) (enters_of Tryz.func226 (by kernel_rfl) rfl) 227 #[.pointer (some ⟨w.heap.size, 0, none⟩)] trivial (enters_of Tryz.func227 (by kernel_rfl) rfl) _ _ hmax hbytes _ hseq

set_option maxHeartbeats 1000000 in
theorem Tryz.slices_Sorted_keys_nil_167_168 (w : World) :
    CallsIn Fence.wide 5 Tryz.prog 167 #[.func (.func 227) #[] #[.pointer (some ⟨w.heap.size, 0, none⟩)]] (w.alloc (.cells #[.map none] 78)) fun e w' => ∃ (v : Value) (ss : List (List UInt8)), e = .returned v ∧ ss = [] ∧
      w'.ownsRow (w.alloc (.cells #[.map none] 78)).heap.size 9 1 v ss.length ((ss.mergeSort (fun x y => decide (x ≤ y))).map encStr) ∧ (v = .slice none 0 0 ↔ ss = []) ∧ Below (w.alloc (.cells #[.map none] 78)).heap.size (w.alloc (.cells #[.map none] 78)) w' := by
  have hseq : SeqGives Fence.wide 2 Tryz.prog 227 #[.pointer (some ⟨w.heap.size, 0, none⟩)] encStr (fun ss : List (List UInt8) => ss = []) 0 (w.alloc (.cells #[.map none] 78)) :=
    AnyZ.keys_gives_nil (ρ := Tryz.keys168_ren) { Tryz.keys168 with } Fence.wide _ trivial rfl w.heap.size _ (by simp) (by simp)
  exact AnyZ.sorted_in Tryz.sorted167 Fence.wide 5 trivial trivial trivial trivial rfl (by omega) (Tryz.sorts167 _) (enters_of Tryz.func226 (by kernel_rfl) rfl) 227 #[.pointer (some ⟨w.heap.size, 0, none⟩)] trivial (enters_of Tryz.func227 (by kernel_rfl) rfl) _ 0 (Nat.zero_le _) (by omega) _ hseq



theorem Tryz.maps_Keys_169 (mb : Option Nat) (W : World) : CallsIn Fence.wide 5 Tryz.prog 169 #[.map mb] W fun e w' => e = .returned (.func (.func 228) #[] #[.pointer (some ⟨W.heap.size, 0, none⟩)]) ∧ w' = W.alloc (.cells #[.map mb] 107) :=
  AnyZ.keys_in Tryz.keys169 Fence.wide 5 trivial rfl mb W

set_option maxHeartbeats 1000000 in
theorem Tryz.slices_Sorted_keys_167_169 {H : Type} (b nn : Nat) (D0 : DataW H) (R : Value → Option (DataW H × List MemPlace)) (w : World) (hown : w.ownsMap Tryz.prog 9 R b nn D0) (hmax : Maps.size D0 ≤ maxLen) (hbytes : Maps.size D0 * 16 ≤ 140737488355328) :
    CallsIn Fence.wide 5 Tryz.prog 167 #[.func (.func 228) #[] #[.pointer (some ⟨w.heap.size, 0, none⟩)]] (w.alloc (.cells #[.map (some b)] 107)) fun e w' => ∃ (v : Value) (ss : List (List UInt8)), e = .returned v ∧ ss.Perm (strKeys D0) ∧
      w'.ownsRow (w.alloc (.cells #[.map (some b)] 107)).heap.size 9 1 v ss.length ((ss.mergeSort (fun x y => decide (x ≤ y))).map encStr) ∧ (v = .slice none 0 0 ↔ ss = []) ∧ Below (w.alloc (.cells #[.map (some b)] 107)).heap.size (w.alloc (.cells #[.map (some b)] 107)) w' := by
  have hbl := hown.lt
  have hseq : SeqGives Fence.wide 2 Tryz.prog 228 #[.pointer (some ⟨w.heap.size, 0, none⟩)] encStr (fun ss => ss.Perm (strKeys D0)) (Maps.size D0) (w.alloc (.cells #[.map (some b)] 107)) :=
    AnyZ.keys_gives (ρ := Tryz.keys169_ren) { Tryz.keys169 with } Fence.wide _ trivial rfl (by omega) w.heap.size b nn D0 _ (by simp) (by simp) (by
      obtain ⟨es, clock, hb, Ft, hs, hD⟩ := hown
      exact ⟨es, clock, (Below.heap_alloc _ _ b hbl).trans hb, Ft, hs, hD⟩)
  exact AnyZ.sorted_in Tryz.sorted167 Fence.wide 5 trivial trivial trivial trivial rfl (by omega) (Tryz.sorts167 _) (enters_of Tryz.func226 (by kernel_rfl) rfl) 228 #[.pointer (some ⟨w.heap.size, 0, none⟩)] trivial (enters_of Tryz.func228 (by kernel_rfl) rfl) _ _ hmax hbytes _ hseq

set_option maxHeartbeats 1000000 in
theorem Tryz.slices_Sorted_keys_nil_167_169 (w : World) :
    CallsIn Fence.wide 5 Tryz.prog 167 #[.func (.func 228) #[] #[.pointer (some ⟨w.heap.size, 0, none⟩)]] (w.alloc (.cells #[.map none] 107)) fun e w' => ∃ (v : Value) (ss : List (List UInt8)), e = .returned v ∧ ss = [] ∧
      w'.ownsRow (w.alloc (.cells #[.map none] 107)).heap.size 9 1 v ss.length ((ss.mergeSort (fun x y => decide (x ≤ y))).map encStr) ∧ (v = .slice none 0 0 ↔ ss = []) ∧ Below (w.alloc (.cells #[.map none] 107)).heap.size (w.alloc (.cells #[.map none] 107)) w' := by
  have hseq : SeqGives Fence.wide 2 Tryz.prog 228 #[.pointer (some ⟨w.heap.size, 0, none⟩)] encStr (fun ss : List (List UInt8) => ss = []) 0 (w.alloc (.cells #[.map none] 107)) :=
    AnyZ.keys_gives_nil (ρ := Tryz.keys169_ren) { Tryz.keys169 with } Fence.wide _ trivial rfl w.heap.size _ (by simp) (by simp)
  exact AnyZ.sorted_in Tryz.sorted167 Fence.wide 5 trivial trivial trivial trivial rfl (by omega) (Tryz.sorts167 _) (enters_of Tryz.func226 (by kernel_rfl) rfl) 228 #[.pointer (some ⟨w.heap.size, 0, none⟩)] trivial (enters_of Tryz.func228 (by kernel_rfl) rfl) _ 0 (Nat.zero_le _) (by omega) _ hseq



end Go.Proofs
/- sums: the adder of counts: add (24); rising (134, 25). -/
namespace Go.Proofs.YtpeefmbdhkfhmaaGreatDoor
open Go Go.Shelf Go.ChangeShapes Go.WideShapes Go.ChangeAt Go.RowKit Go.Maps Go.Sort
set_option linter.unusedVariables false
theorem u3 : Tryz.prog.underlying 3 = some (.int .i64) := Tryz.underlying3
theorem zero3 (w : World) : (zeroValue 3).run Tryz.prog w = .ok (.int .i64 0) w := by kernel_rfl
theorem map_some64 (b : Nat) (w : World) : (binOp .eql 107 (.map (some b)) (.map none)).run Tryz.prog w = .ok (.bool false) w := by kernel_rfl
theorem map_none64 (w : World) : (binOp .eql 107 (.map none) (.map none)).run Tryz.prog w = .ok (.bool true) w := by kernel_rfl
set_option maxRecDepth 100000 in
set_option maxHeartbeats 2000000 in
theorem addI_some (s : ByteArray) (hs : s.size ≤ maxLen) (x : Int) (d o b n : Nat) (hn : n < maxLen) (f : List UInt8 → Int) (D : DataW Unit) (w : World) (hc : w.cell? ⟨d, o, none⟩ = some (.map (some b))) (hm : w.ownsMap Tryz.prog 9 (plainElem Tryz.prog 3) b n D) (hS : Sm D f) (hdb : d ≠ b) :
    Calls Tryz.prog 86 #[.pointer (some ⟨d, o, none⟩), .string s, .int .i64 x] w fun e w' => AddOut 3 s x d o (some b) n f w e w' b := by
  have K : Keyed Tryz.prog 9 := string_keyed Tryz.underlying9
  have hd1 : d < w.heap.size := World.block_lt_of_cell? w ⟨d, o, none⟩ hc
  obtain ⟨c, hr1, ha1, _⟩ := hm.lookup_int K Tryz.underlying107 u3 (zero3 _) (keyM hs)
  rw [hS.val] at ha1
  have hF : c = f s.data.toList := by injection ha1 with ha1; injection ha1 with _ ha1; exact ha1.symm
  obtain ⟨Y, hY⟩ : ∃ Y, IntKind.i64.wrap (c + x) = Y := ⟨_, rfl⟩
  have hYw : (Lit.int .i64 Y).wf = true := by rw [← hY]; exact wrap_wf _
  obtain ⟨w1, hr2, hm1, hg1⟩ := hm.update K Tryz.underlying107 hn (keyM hs) (plainElem_int u3 hYw)
  obtain ⟨c2, hr3, ha3, _⟩ := hm1.lookup_int K Tryz.underlying107 u3 (zero3 _) (keyM hs)
  rw [atKey_put_same hm.isMap (by trivial)] at ha3
  have hc2 : c2 = Y := by injection ha3 with ha3; injection ha3 with _ ha3; exact ha3.symm
  subst hc2
  have hold1 : ∀ k, k < w.heap.size → k ≠ b → w1.heap[k]? = w.heap[k]? := fun k hk hne => hg1.block k hk (fun e => hne (Option.some.inj e))
  have hc1 : w1.cell? ⟨d, o, none⟩ = some (.map (some b)) := (World.cell?_of_block (a := ⟨d, o, none⟩) (hold1 d hd1 hdb)).trans hc
  have hms := fun W => map_some64 b W
  by_cases hy : c2 = 0
  · subst hy
    obtain ⟨w2, hr4, hm2, ht2⟩ := hm1.drop K Tryz.underlying107 (keyM hs) 0
    have HM := hide hm2; have HG1 := hide hg1; have HG2 := hide ht2.grown; have HF := hide hF; have HS := hide hS; have HC := hide hc; have HO := hide hold1; have HY := hide hY; have HW := hide hm.isMap
    clear ha1 ha3 hm2 hg1 ht2 hF hS hm hm1 hold1
    go_enter Tryz.func86, Tryz.ntmps86
    go_wp2_with fail
    go_end0
    have hg2 := unhide HG2
    have hold : ∀ k, k < w.heap.size → k ≠ b → w2.heap[k]? = w.heap[k]? := fun k hk hne => (hg2.block k (Nat.lt_of_lt_of_le hk (unhide HG1).size) (fun e => hne (Option.some.inj e))).trans (unhide HO k hk hne)
    have hcell : ∀ j, w2.cell? ⟨d, j, none⟩ = w.cell? ⟨d, j, none⟩ := fun j => World.cell?_of_block (a := ⟨d, j, none⟩) (hold d hd1 hdb)
    refine ⟨⟨_, rfl⟩, (hcell o).trans (unhide HC), .inr ⟨b, _, rfl, unhide HM, ?_⟩, .inl rfl, hg2.os.trans (unhide HG1).os, hg2.tape.trans (unhide HG1).tape, hg2.output.trans (unhide HG1).output, Nat.le_trans (unhide HG1).size hg2.size, fun k hk h1 _ => hold k hk (fun e => h1 (by rw [e])), fun j _ => hcell j, fun j => World.frozen?_of_block (a := ⟨d, j, none⟩) (hold d hd1 hdb)⟩
    rw [← unhide HF, unhide HY]
    exact (unhide HS).putDel _ _
  · have HM := hide hm1; have HG1 := hide hg1; have HF := hide hF; have HS := hide hS; have HC := hide hc; have HO := hide hold1; have HY := hide hY; have HN := hide hy; have HW := hide hm.isMap
    have hyb : (c2 == 0) = false := by simpa using hy
    clear ha1 ha3 hg1 hF hS hm hm1 hold1
    go_enter Tryz.func86, Tryz.ntmps86
    go_wp2_with fail
    go_end0
    have hg1 := unhide HG1
    have hold := unhide HO
    have hcell : ∀ j, w1.cell? ⟨d, j, none⟩ = w.cell? ⟨d, j, none⟩ := fun j => World.cell?_of_block (a := ⟨d, j, none⟩) (hold d hd1 hdb)
    refine ⟨⟨_, rfl⟩, (hcell o).trans (unhide HC), .inr ⟨b, _, rfl, unhide HM, ?_⟩, .inl rfl, hg1.os, hg1.tape, hg1.output, hg1.size, fun k hk h1 _ => hold k hk (fun e => h1 (by rw [e])), fun j _ => hcell j, fun j => World.frozen?_of_block (a := ⟨d, j, none⟩) (hold d hd1 hdb)⟩
    rw [← unhide HF, unhide HY]
    exact (unhide HS).put (unhide HW) _ (unhide HN) hYw
set_option maxRecDepth 100000 in
set_option maxHeartbeats 2000000 in
theorem addI_none (s : ByteArray) (hs : s.size ≤ maxLen) (x : Int) (d o n : Nat) (f : List UInt8 → Int) (w : World) (hc : w.cell? ⟨d, o, none⟩ = some (.map none)) (hz : w.frozen? ⟨d, o, none⟩ = false) (hf : ∀ y, f y = 0) :
    Calls Tryz.prog 86 #[.pointer (some ⟨d, o, none⟩), .string s, .int .i64 x] w fun e w' => AddOut 3 s x d o none n f w e w' w.heap.size := by
  have K : Keyed Tryz.prog 9 := string_keyed Tryz.underlying9
  have hd1 : d < w.heap.size := World.block_lt_of_cell? w ⟨d, o, none⟩ hc
  have hS : Sm (.map []) f := by
    have e : f = fun _ => 0 := funext hf
    rw [e]; exact Sm.none
  obtain ⟨W, hW⟩ : ∃ W, W = (w.setCell ⟨d, o, none⟩ (.map (some w.heap.size))).alloc (.map #[] 0) := ⟨_, rfl⟩
  have hsz : (w.setCell ⟨d, o, none⟩ (.map (some w.heap.size))).heap.size = w.heap.size := by simp
  have hm : W.ownsMap (H := Unit) Tryz.prog 9 (plainElem Tryz.prog 3) w.heap.size 0 (.map []) := by
    have h := World.ownsMap_made (H := Unit) (w.setCell ⟨d, o, none⟩ (.map (some w.heap.size))) Tryz.prog 9 (plainElem Tryz.prog 3)
    rw [hsz] at h
    rw [hW]
    exact h
  obtain ⟨c, hr1, ha1, _⟩ := hm.lookup_int K Tryz.underlying107 u3 (zero3 _) (keyM hs)
  rw [hS.val] at ha1
  have hF : c = f s.data.toList := by injection ha1 with ha1; injection ha1 with _ ha1; exact ha1.symm
  obtain ⟨Y, hY⟩ : ∃ Y, IntKind.i64.wrap (c + x) = Y := ⟨_, rfl⟩
  have hYw : (Lit.int .i64 Y).wf = true := by rw [← hY]; exact wrap_wf _
  obtain ⟨w1, hr2, hm1, hg1⟩ := hm.update K Tryz.underlying107 (by unfold maxLen; omega) (keyM hs) (plainElem_int u3 hYw)
  obtain ⟨c2, hr3, ha3, _⟩ := hm1.lookup_int K Tryz.underlying107 u3 (zero3 _) (keyM hs)
  rw [atKey_put_same hm.isMap (by trivial)] at ha3
  have hc2 : c2 = Y := by injection ha3 with ha3; injection ha3 with _ ha3; exact ha3.symm
  subst hc2
  have hWs : W.heap.size = w.heap.size + 1 := by rw [hW]; simp
  have hold0 : ∀ k, k < w.heap.size → W.heap[k]? = (w.setCell ⟨d, o, none⟩ (.map (some w.heap.size))).heap[k]? := fun k hk => by rw [hW]; exact Below.heap_alloc _ _ k (by rw [hsz]; exact hk)
  have hold1 : ∀ k, k < w.heap.size → w1.heap[k]? = (w.setCell ⟨d, o, none⟩ (.map (some w.heap.size))).heap[k]? := fun k hk => (hg1.block k (by omega) (fun e => by injection e with e; omega)).trans (hold0 k hk)
  have hcS : (w.setCell ⟨d, o, none⟩ (.map (some w.heap.size))).cell? ⟨d, o, none⟩ = some (.map (some w.heap.size)) := World.cell?_setCell_same _ _ _ hc
  have hcW : W.cell? ⟨d, o, none⟩ = some (.map (some w.heap.size)) := (World.cell?_of_block (a := ⟨d, o, none⟩) (hold0 d hd1)).trans hcS
  have hc1 : w1.cell? ⟨d, o, none⟩ = some (.map (some w.heap.size)) := (World.cell?_of_block (a := ⟨d, o, none⟩) (hold1 d hd1)).trans hcS
  have hms := fun W => map_none64 W
  have hmk := fun W => run_makeMap (P := Tryz.prog) 107 W
  have hcA : (w.alloc (.map #[] 0)).cell? ⟨d, o, none⟩ = some (.map none) := (Below.cell ((Below.refl w.heap.size w).alloc (Nat.le_refl _) _) (p := ⟨d, o, none⟩) hd1).trans hc
  have hzA : (w.alloc (.map #[] 0)).frozen? ⟨d, o, none⟩ = false := (Below.frozen ((Below.refl w.heap.size w).alloc (Nat.le_refl _) _) (p := ⟨d, o, none⟩) hd1).trans hz
  have hbig : ∀ (w2 : World), (∀ k, k < w.heap.size → w2.heap[k]? = (w.setCell ⟨d, o, none⟩ (.map (some w.heap.size))).heap[k]?) → W.grownBy w2 (some w.heap.size) → ∀ D, w2.ownsMap Tryz.prog 9 (plainElem Tryz.prog 3) w.heap.size 1 D → Sm D (upd f s.data.toList (IntKind.i64.wrap (f s.data.toList + x))) → ∀ r, AddOut 3 s x d o none n f w (.returned r) w2 w.heap.size := by
    intro w2 hold hg D hM hSm r
    have hcell : ∀ j, w2.cell? ⟨d, j, none⟩ = (w.setCell ⟨d, o, none⟩ (.map (some w.heap.size))).cell? ⟨d, j, none⟩ := fun j => World.cell?_of_block (a := ⟨d, j, none⟩) (hold d hd1)
    have eo : W.os = w.os := by rw [hW]; rfl
    have et : W.tape = w.tape := by rw [hW]; rfl
    have eu : W.output = w.output := by rw [hW]; rfl
    refine ⟨⟨_, rfl⟩, (hcell o).trans hcS, .inr ⟨_, _, rfl, hM.mono (by omega), hSm⟩, .inr ⟨rfl, Nat.le_refl _⟩, hg.os.trans eo, hg.tape.trans et, hg.output.trans eu, by have := hg.size; omega, fun k hk _ h2 => (hold k hk).trans (Below.heap_setCell _ ⟨d, o, none⟩ _ k (h2 rfl)), fun j hj => (hcell j).trans (World.cell?_setCell_other _ _ _ _ (fun e => hj (by cases e; rfl))), fun j => (World.frozen?_of_block (a := ⟨d, j, none⟩) (hold d hd1)).trans (by rw [World.frozen?_setCell])⟩
  have HB := hide hbig
  by_cases hy : c2 = 0
  · subst hy
    obtain ⟨w2, hr4, hm2, ht2⟩ := hm1.drop K Tryz.underlying107 (keyM hs) 0
    have HM := hide hm2; have HG1 := hide hg1; have HG2 := hide ht2.grown; have HF := hide hF; have HS := hide hS; have HO := hide hold1; have HY := hide hY
    clear ha1 ha3 hm2 hg1 ht2 hF hS hm hm1 hold1 hbig hold0 hcS hf hcW hWs hsz
    subst hW
    go_enter Tryz.func86, Tryz.ntmps86
    go_wp2_with fail
    go_end0
    have hg2 := unhide HG2
    refine unhide HB w2 (fun k hk => (hg2.block k (by have := (unhide HG1).size; simp at this; omega) (fun e => by injection e with e; omega)).trans (unhide HO k hk)) ((unhide HG1).trans hg2) _ (unhide HM) ?_ _
    rw [← unhide HF, unhide HY]
    exact (unhide HS).putDel _ _
  · have HM := hide hm1; have HG1 := hide hg1; have HF := hide hF; have HS := hide hS; have HO := hide hold1; have HY := hide hY; have HN := hide hy; have HW := hide hm.isMap
    have hyb : (c2 == 0) = false := by simpa using hy
    clear ha1 ha3 hg1 hF hS hm hm1 hold1 hbig hold0 hcS hf hcW hWs hsz
    subst hW
    go_enter Tryz.func86, Tryz.ntmps86
    go_wp2_with fail
    go_end0
    refine unhide HB w1 (unhide HO) (unhide HG1) _ (unhide HM) ?_ _
    rw [← unhide HF, unhide HY]
    exact (unhide HS).put (unhide HW) _ (unhide HN) hYw
theorem addI_any (s : ByteArray) (hs : s.size ≤ maxLen) (x : Int) (d o n : Nat) (hn : n < maxLen) (mo : Option Nat) (f : List UInt8 → Int) (w : World) (hc : w.cell? ⟨d, o, none⟩ = some (.map mo)) (hz : w.frozen? ⟨d, o, none⟩ = false) (hM : MapAt 3 w mo n f) (hdb : ∀ b, mo = some b → d ≠ b) :
    Calls Tryz.prog 86 #[.pointer (some ⟨d, o, none⟩), .string s, .int .i64 x] w fun e w' => ∃ b', AddOut 3 s x d o mo n f w e w' b' := by
  rcases hM with ⟨rfl, hf⟩ | ⟨b, D, rfl, hm, hS⟩
  · exact (addI_none s hs x d o n f w hc hz hf).mono fun e w' h => ⟨_, h⟩
  · exact (addI_some s hs x d o b n hn f D w hc hm hS (hdb b rfl)).mono fun e w' h => ⟨_, h⟩
theorem strKeys_mem {R : Value → Option (DataW Unit × List MemPlace)} {w : World} {b n : Nat} {D : DataW Unit} (h : w.ownsMap Tryz.prog 9 R b n D) : (strKeys D).Nodup ∧ ∀ x, x ∈ strKeys D ↔ has D (.string x) = true := by
  obtain ⟨es, he, hp⟩ := h.tidy (string_keyed Tryz.underlying9)
  obtain ⟨es', he', hk⟩ := h.keysOf
  rw [he] at he'
  injection he' with he'
  subst he'
  subst he
  have hs : ∀ p ∈ es, ∃ x, p.1 = .string x := fun p hp => by
    obtain ⟨key, hkey⟩ := hk p hp
    obtain ⟨x, _, hx, _⟩ := Maps.keyOf_str Tryz.underlying9 hkey
    exact ⟨x, hx⟩
  have e : strKeys (.map es : DataW Unit) = es.map (fun p => strOf p.1) := rfl
  rw [e]
  clear hk h e
  constructor
  · rw [List.nodup_iff_pairwise_ne, List.pairwise_map]
    refine List.Pairwise.imp_of_mem ?_ hp
    intro p q hpm hqm hne e
    obtain ⟨x, hx⟩ := hs p hpm
    obtain ⟨y, hy⟩ := hs q hqm
    rw [hx, hy] at e
    simp only [strOf] at e
    exact hne (by rw [hx, hy, e])
  · intro x
    rw [has_eq, List.mem_map, List.any_eq_true]
    constructor
    · rintro ⟨p, hpm, rfl⟩
      obtain ⟨y, hy⟩ := hs p hpm
      exact ⟨p, hpm, by rw [hy]; simp [strOf, Lit.sameKey]⟩
    · rintro ⟨p, hpm, hq⟩
      obtain ⟨y, hy⟩ := hs p hpm
      refine ⟨p, hpm, ?_⟩
      rw [hy] at hq ⊢
      simpa [strOf, Lit.sameKey] using hq
/-- names in their order -/
def srt (l : List (List UInt8)) : List (List UInt8) := l.mergeSort (fun x y => decide (x ≤ y))
theorem row_up {w : World} {B B' : Nat} {v : Value} {e s n : Nat} {xs : List Value} (h : w.ownsRow B e s v n xs) (hq : B' ≤ B) : w.ownsRow B' e s v n xs := by
  refine ⟨h.1, ?_⟩
  rcases h.2 with h1 | ⟨g, cap, cur, rfl, hb, rest⟩
  · exact .inl h1
  · exact .inr ⟨g, cap, cur, rfl, Nat.le_trans hq hb, rest⟩
/-- what rising hands out -/
def RisOut (w : World) (n : Nat) (f : List UInt8 → Int) (e : Ending) (w' : World) : Prop :=
  ∃ v ss, e = .returned v ∧ ss.Nodup ∧ (∀ k, k ∈ ss ↔ f k ≠ 0) ∧ (∀ k ∈ ss, k.length ≤ maxLen) ∧ ss.length ≤ n ∧ w'.ownsRow w.heap.size 9 1 v ss.length ((srt ss).map encStr) ∧ Below w.heap.size w w'
set_option maxRecDepth 100000 in
set_option maxHeartbeats 4000000 in
theorem rising_any (d o n : Nat) (hn : n ≤ 1099511627776) (mo : Option Nat) (f : List UInt8 → Int) (w : World) (hc : w.cell? ⟨d, o, none⟩ = some (.map mo)) (hM : MapAt 2 w mo n f) : Calls Tryz.prog 85 #[.pointer (some ⟨d, o, none⟩)] w fun e w' => RisOut w n f e w' := by
  rcases hM with ⟨rfl, hf⟩ | ⟨b, D, rfl, hm, hS⟩
  · refine (callsIn_wide (n := 6)).1 ?_
    have hfK : Fence.wide.fn 168 := trivial
    have hfS : Fence.wide.fn 167 := trivial
    refine callsIn_of_wp Tryz.func85 rfl trivial ?_ rfl
    simp only [Tryz.ntmps85, List.size_toArray, List.length_cons, List.length_nil, Nat.reduceAdd, Nat.reduceSub, Array.replicate_succ, Array.replicate_zero, List.push_toArray, List.append_toArray, List.nil_append, List.cons_append]
    gi_wp2_with (first
      | (gi_at_call 168; refine (Tryz.maps_Keys_168 _ _).mono ?_; rintro e w' ⟨rfl, rfl⟩)
      | (gi_at_call 167; refine (Tryz.slices_Sorted_keys_nil_167_168 w).mono ?_; rintro e w' ⟨v, ss, rfl, hS, hrow, hnil, hb⟩))
    go_ret
    subst hS
    refine ⟨v, [], rfl, List.nodup_nil, (fun k => by simp [hf]), (fun k hk => (by cases hk)), (by simp), row_up hrow (by simp), ((Below.refl _ w).alloc (Nat.le_refl _) _).trans (hb.mono (by simp))⟩
  · have hsz : Maps.size D ≤ n := hm.size_le
    have hmax : Maps.size D ≤ maxLen := by unfold maxLen; omega
    have hbytes : Maps.size D * 16 ≤ 140737488355328 := by omega
    have hkm := strKeys_mem hm
    have hkl := strKeys_le hm Tryz.underlying9
    have HKM := hide hkm; have HKL := hide hkl; have HSm := hide hS; have HSZ := hide hsz
    have hkz : (strKeys D).length = Maps.size D := by
      obtain ⟨es, he⟩ := hm.isMap
      subst he
      show (es.map (fun p => strOf p.1)).length = es.length
      simp
    have HKZ := hide hkz
    clear hkm hkl hS hsz hkz
    refine (callsIn_wide (n := 6)).1 ?_
    have hfK : Fence.wide.fn 168 := trivial
    have hfS : Fence.wide.fn 167 := trivial
    refine callsIn_of_wp Tryz.func85 rfl trivial ?_ rfl
    simp only [Tryz.ntmps85, List.size_toArray, List.length_cons, List.length_nil, Nat.reduceAdd, Nat.reduceSub, Array.replicate_succ, Array.replicate_zero, List.push_toArray, List.append_toArray, List.nil_append, List.cons_append]
    gi_wp2_with (first
      | (gi_at_call 168; refine (Tryz.maps_Keys_168 _ _).mono ?_; rintro e w' ⟨rfl, rfl⟩)
      | (gi_at_call 167; refine (Tryz.slices_Sorted_keys_167_168 b n D (plainElem Tryz.prog 2) w hm hmax hbytes).mono ?_; rintro e w' ⟨v, ss, rfl, hS, hrow, hnil, hb⟩))
    go_ret
    refine ⟨v, ss, rfl, hS.nodup_iff.2 (unhide HKM).1, fun k => ?_, fun k hk => unhide HKL k (hS.mem_iff.1 hk), ?_, row_up hrow (by simp), ((Below.refl _ w).alloc (Nat.le_refl _) _).trans (hb.mono (by simp))⟩
    · rw [hS.mem_iff, (unhide HKM).2, (unhide HSm).key]
      simp
    · rw [hS.length_eq, unhide HKZ]
      exact unhide HSZ
set_option maxRecDepth 100000 in
set_option maxHeartbeats 4000000 in
theorem risingI_any (d o n : Nat) (hn : n ≤ 1099511627776) (mo : Option Nat) (f : List UInt8 → Int) (w : World) (hc : w.cell? ⟨d, o, none⟩ = some (.map mo)) (hM : MapAt 3 w mo n f) : Calls Tryz.prog 87 #[.pointer (some ⟨d, o, none⟩)] w fun e w' => RisOut w n f e w' := by
  rcases hM with ⟨rfl, hf⟩ | ⟨b, D, rfl, hm, hS⟩
  · refine (callsIn_wide (n := 6)).1 ?_
    have hfK : Fence.wide.fn 169 := trivial
    have hfS : Fence.wide.fn 167 := trivial
    refine callsIn_of_wp Tryz.func87 rfl trivial ?_ rfl
    simp only [Tryz.ntmps87, List.size_toArray, List.length_cons, List.length_nil, Nat.reduceAdd, Nat.reduceSub, Array.replicate_succ, Array.replicate_zero, List.push_toArray, List.append_toArray, List.nil_append, List.cons_append]
    gi_wp2_with (first
      | (gi_at_call 169; refine (Tryz.maps_Keys_169 _ _).mono ?_; rintro e w' ⟨rfl, rfl⟩)
      | (gi_at_call 167; refine (Tryz.slices_Sorted_keys_nil_167_169 w).mono ?_; rintro e w' ⟨v, ss, rfl, hS, hrow, hnil, hb⟩))
    go_ret
    subst hS
    refine ⟨v, [], rfl, List.nodup_nil, (fun k => by simp [hf]), (fun k hk => (by cases hk)), (by simp), row_up hrow (by simp), ((Below.refl _ w).alloc (Nat.le_refl _) _).trans (hb.mono (by simp))⟩
  · have hsz : Maps.size D ≤ n := hm.size_le
    have hmax : Maps.size D ≤ maxLen := by unfold maxLen; omega
    have hbytes : Maps.size D * 16 ≤ 140737488355328 := by omega
    have hkm := strKeys_mem hm
    have hkl := strKeys_le hm Tryz.underlying9
    have HKM := hide hkm; have HKL := hide hkl; have HSm := hide hS; have HSZ := hide hsz
    have hkz : (strKeys D).length = Maps.size D := by
      obtain ⟨es, he⟩ := hm.isMap
      subst he
      show (es.map (fun p => strOf p.1)).length = es.length
      simp
    have HKZ := hide hkz
    clear hkm hkl hS hsz hkz
    refine (callsIn_wide (n := 6)).1 ?_
    have hfK : Fence.wide.fn 169 := trivial
    have hfS : Fence.wide.fn 167 := trivial
    refine callsIn_of_wp Tryz.func87 rfl trivial ?_ rfl
    simp only [Tryz.ntmps87, List.size_toArray, List.length_cons, List.length_nil, Nat.reduceAdd, Nat.reduceSub, Array.replicate_succ, Array.replicate_zero, List.push_toArray, List.append_toArray, List.nil_append, List.cons_append]
    gi_wp2_with (first
      | (gi_at_call 169; refine (Tryz.maps_Keys_169 _ _).mono ?_; rintro e w' ⟨rfl, rfl⟩)
      | (gi_at_call 167; refine (Tryz.slices_Sorted_keys_167_169 b n D (plainElem Tryz.prog 3) w hm hmax hbytes).mono ?_; rintro e w' ⟨v, ss, rfl, hS, hrow, hnil, hb⟩))
    go_ret
    refine ⟨v, ss, rfl, hS.nodup_iff.2 (unhide HKM).1, fun k => ?_, fun k hk => unhide HKL k (hS.mem_iff.1 hk), ?_, row_up hrow (by simp), ((Below.refl _ w).alloc (Nat.le_refl _) _).trans (hb.mono (by simp))⟩
    · rw [hS.mem_iff, (unhide HKM).2, (unhide HSm).key]
      simp
    · rw [hS.length_eq, unhide HKZ]
      exact unhide HSZ
end Go.Proofs.YtpeefmbdhkfhmaaGreatDoor
