import Derived.Shelf.Strconv.Itoa0
import Derived.Shelf.Strconv.Itoa1
import Derived.Shelf.LaysM
import Derived.Shelf.Strconv.Itoa2
import Derived.Shelf.Strconv.Itoa3
import Derived.Test.YtpeohbkigkfcgaaGreatDoorProg
import Derived.Test.YtpeohbkigkfcgaaGreatDoorGAG
import Derived.Lib.LaidTab
import Derived.Sort.Grow
import Derived.Lib.ItoaLen
import Derived.Shelf.SlSortCmp.QuietGrown
import Derived.Deep.RegionHeld3
import Derived.Deep.RegionHeldLaw
set_option linter.unusedVariables false
set_option linter.unusedSimpArgs false
set_option maxRecDepth 100000
set_option maxHeartbeats 16000000
namespace Go.Proofs
open Go.Shelf
def Tryz.lays129_ren : Go.Shelf.Ren := ⟨fun | 129 => 274 | n => n, fun | 53 => 291 | 3 => 3 | 4 => 4 | 46 => 278 | 5 => 5 | 9 => 9 | n => n, fun | n => n⟩
theorem Tryz.lays129 : Go.Proofs.Lays.n129 Tryz.prog Tryz.lays129_ren := {
  mixed := by kernel_rfl
  f129 := Tryz.func274.trans (congrArg some (by kernel_rfl))
  t3 := Tryz.underlying3
  a3 := Tryz.isAgg3
  z3 := Tryz.sizeOf3
  v3 := Tryz.zeroValue3
  t4 := Tryz.underlying4
  a4 := Tryz.isAgg4
  z4 := Tryz.sizeOf4
  v4 := Tryz.zeroValue4
  t5 := Tryz.underlying5
  a5 := Tryz.isAgg5
  z5 := Tryz.sizeOf5
  v5 := Tryz.zeroValue5
  t9 := Tryz.underlying9
  a9 := Tryz.isAgg9
  z9 := Tryz.sizeOf9
  v9 := Tryz.zeroValue9
  t46 := Tryz.underlying278
  a46 := Tryz.isAgg278
  z46 := Tryz.sizeOf278
  v46 := Tryz.zeroValue278
  t53 := Tryz.underlying291
  a53 := Tryz.isAgg291
  z53 := Tryz.sizeOf291
  v53 := Tryz.zeroValue291 }
theorem Tryz.bits_Len64 (x : Int) (w : World) (h0 : 0 ≤ x) (h1 : x ≤ 18446744073709551615) :
    Calls Tryz.prog 274 #[.int .u64 x] w fun e w' => e = .returned (.int .i64 (Lib.bitLen x.toNat)) ∧ w' = w := Any.bits_Len64 Tryz.lays129 x w h0 h1
def Tryz.lays317_ren : Go.Shelf.Ren := ⟨fun | 317 => 288 | n => n, fun | 3 => 3 | 46 => 278 | n => n, fun | n => n⟩
theorem Tryz.lays317 : Go.Proofs.Lays.n317 Tryz.prog Tryz.lays317_ren := {
  mixed := by kernel_rfl
  f317 := Tryz.func288.trans (congrArg some (by kernel_rfl))
  t3 := Tryz.underlying3
  a3 := Tryz.isAgg3
  z3 := Tryz.sizeOf3
  v3 := Tryz.zeroValue3
  t46 := Tryz.underlying278
  a46 := Tryz.isAgg278
  z46 := Tryz.sizeOf278
  v46 := Tryz.zeroValue278 }
open Go.Lib in
theorem Tryz.internal_strconv_log10Pow2 (x : Nat) (h : x ≤ 64) (w : World) :
    Calls Tryz.prog 288 #[.int .i64 x] w fun e w' => e = .returned (.int .i64 (Lib.l10 x)) ∧ w' = w := Any.internal_strconv_log10Pow2 Tryz.lays317 x h w
def Tryz.lays318_ren : Go.Shelf.Ren := ⟨fun | 318 => 289 | n => n, fun | 3 => 3 | 4 => 4 | n => n, fun | n => n⟩
theorem Tryz.lays318 : Go.Proofs.Lays.n318 Tryz.prog Tryz.lays318_ren := {
  mixed := by kernel_rfl
  f318 := Tryz.func289.trans (congrArg some (by kernel_rfl))
  t3 := Tryz.underlying3
  a3 := Tryz.isAgg3
  z3 := Tryz.sizeOf3
  v3 := Tryz.zeroValue3
  t4 := Tryz.underlying4
  a4 := Tryz.isAgg4
  z4 := Tryz.sizeOf4
  v4 := Tryz.zeroValue4 }
open Go.Lib in
theorem Tryz.internal_strconv_bool2_int (b : Bool) (w : World) :
    Calls Tryz.prog 289 #[.bool b] w fun e w' => e = .returned (.int .i64 (if b then 1 else 0)) ∧ w' = w := Any.internal_strconv_bool2_int Tryz.lays318 b w
def Tryz.lays283_ren : Go.Shelf.Ren := ⟨fun | 283 => 284 | n => n, fun | 3 => 3 | 9 => 9 | 4 => 4 | n => n, fun | n => n⟩
theorem Tryz.lays283 : Go.Proofs.Lays.n283 Tryz.prog Tryz.lays283_ren := {
  mixed := by kernel_rfl
  f283 := Tryz.func284.trans (congrArg some (by kernel_rfl))
  t3 := Tryz.underlying3
  a3 := Tryz.isAgg3
  z3 := Tryz.sizeOf3
  v3 := Tryz.zeroValue3
  t4 := Tryz.underlying4
  a4 := Tryz.isAgg4
  z4 := Tryz.sizeOf4
  v4 := Tryz.zeroValue4
  t9 := Tryz.underlying9
  a9 := Tryz.isAgg9
  z9 := Tryz.sizeOf9
  v9 := Tryz.zeroValue9 }
open Go.Lib in
theorem Tryz.internal_strconv_small (i : Nat) (h : i < 100) (w : World) :
    Calls Tryz.prog 284 #[.int .i64 i] w fun e w' => e = .returned (.string ⟨(Lib.decDigits i).toArray⟩) ∧ w' = w := Any.internal_strconv_small Tryz.lays283 i h w
def Tryz.laysM284_ren : Go.Shelf.Ren := ⟨fun | 284 => 285 | 129 => 274 | 317 => 288 | 318 => 289 | n => n, fun | 53 => 291 | 3 => 3 | 212 => 307 | 0 => 0 | 4 => 4 | 46 => 278 | 5 => 5 | 9 => 9 | n => n, fun | 17 => 0 | n => n⟩
theorem Tryz.laysM284 : Go.Proofs.LaysM.n284 Tryz.prog Tryz.laysM284_ren := {
  mixed := by kernel_rfl
  f129 := Tryz.func274.trans (congrArg some (by kernel_rfl))
  f284 := Tryz.func285.trans (congrArg some (by kernel_rfl))
  f317 := Tryz.func288.trans (congrArg some (by kernel_rfl))
  f318 := Tryz.func289.trans (congrArg some (by kernel_rfl))
  t0 := Tryz.underlying0
  a0 := Tryz.isAgg0
  z0 := Tryz.sizeOf0
  v0 := Tryz.zeroValue0
  t3 := Tryz.underlying3
  a3 := Tryz.isAgg3
  z3 := Tryz.sizeOf3
  v3 := Tryz.zeroValue3
  t4 := Tryz.underlying4
  a4 := Tryz.isAgg4
  z4 := Tryz.sizeOf4
  v4 := Tryz.zeroValue4
  t5 := Tryz.underlying5
  a5 := Tryz.isAgg5
  z5 := Tryz.sizeOf5
  v5 := Tryz.zeroValue5
  t9 := Tryz.underlying9
  a9 := Tryz.isAgg9
  z9 := Tryz.sizeOf9
  v9 := Tryz.zeroValue9
  t46 := Tryz.underlying278
  a46 := Tryz.isAgg278
  z46 := Tryz.sizeOf278
  v46 := Tryz.zeroValue278
  t53 := Tryz.underlying291
  a53 := Tryz.isAgg291
  z53 := Tryz.sizeOf291
  v53 := Tryz.zeroValue291
  t212 := Tryz.underlying307
  a212 := Tryz.isAgg307
  z212 := Tryz.sizeOf307
  v212 := Tryz.zeroValue307
  g17 := by kernel_rfl
  i0 := by kernel_rfl
  i3 := by kernel_rfl
  i4 := by kernel_rfl
  i5 := by kernel_rfl
  i9 := by kernel_rfl
  i46 := by kernel_rfl
  i53 := by kernel_rfl
  i212 := by kernel_rfl
  m17 := by kernel_rfl }
open Go.Lib in
theorem Tryz.internal_strconv_numDigits (u : Nat) (h1 : 1 ≤ u) (h2 : u < 18446744073709551616) (w : World) (htab : Lib.TabIs Tryz.prog w "internal/strconv.uint64pow10" .u64 Lib.pow10Tab) :
    Calls Tryz.prog 285 #[.int .u64 u] w fun e w' => e = .returned (.int .i64 (Lib.nDigits u)) ∧ w' = w := Any.internal_strconv_numDigits Tryz.laysM284 u h1 h2 w htab
def Tryz.lays285_ren : Go.Shelf.Ren := ⟨fun | 285 => 286 | n => n, fun | 37 => 55 | 53 => 291 | 3 => 3 | 4 => 4 | 51 => 279 | 9 => 9 | 5 => 5 | 0 => 0 | n => n, fun | n => n⟩
theorem Tryz.lays285 : Go.Proofs.Lays.n285 Tryz.prog Tryz.lays285_ren := {
  mixed := by kernel_rfl
  f285 := Tryz.func286.trans (congrArg some (by kernel_rfl))
  t0 := Tryz.underlying0
  a0 := Tryz.isAgg0
  z0 := Tryz.sizeOf0
  v0 := Tryz.zeroValue0
  t3 := Tryz.underlying3
  a3 := Tryz.isAgg3
  z3 := Tryz.sizeOf3
  v3 := Tryz.zeroValue3
  t4 := Tryz.underlying4
  a4 := Tryz.isAgg4
  z4 := Tryz.sizeOf4
  v4 := Tryz.zeroValue4
  t5 := Tryz.underlying5
  a5 := Tryz.isAgg5
  z5 := Tryz.sizeOf5
  v5 := Tryz.zeroValue5
  t9 := Tryz.underlying9
  a9 := Tryz.isAgg9
  z9 := Tryz.sizeOf9
  v9 := Tryz.zeroValue9
  t37 := Tryz.underlying55
  a37 := Tryz.isAgg55
  z37 := Tryz.sizeOf55
  v37 := Tryz.zeroValue55
  t51 := Tryz.underlying279
  a51 := Tryz.isAgg279
  z51 := Tryz.sizeOf279
  v51 := Tryz.zeroValue279
  t53 := Tryz.underlying291
  a53 := Tryz.isAgg291
  z53 := Tryz.sizeOf291
  v53 := Tryz.zeroValue291 }
open Go.RowKit Go.Sort Go.Lib in
theorem Tryz.internal_strconv_formatBase10 (blk off cap : Nat) (u : Nat) (d : Array UInt8) (w : World) (hH : Holds (fun (b : UInt8) => Value.int .u8 (b.toNat : Int)) w blk off d) (hu : u < 10 ^ d.size) (hu64 : u < 18446744073709551616) (hsz : d.size < 4611686018427387904) :
    Calls Tryz.prog 286 #[.slice (some ⟨blk, off, none⟩) d.size cap, .int .u64 u] w fun e w' =>
      e = .returned (.tuple #[]) ∧ ∃ (n v' : Nat) (dk : Array UInt8), w' = (putRow (fun (b : UInt8) => Value.int .u8 (b.toNat : Int)) w blk off dk).drewN n ∧ FmtInv d.size u 0 v' dk := Any.internal_strconv_formatBase10 Tryz.lays285 blk off cap u d w hH hu hu64 hsz
def Tryz.laysM246_ren : Go.Shelf.Ren := ⟨fun | 246 => 282 | 283 => 284 | 284 => 285 | 285 => 286 | 286 => 287 | 129 => 274 | 317 => 288 | 318 => 289 | 319 => 290 | 320 => 291 | 337 => 292 | 338 => 293 | n => n, fun | 2 => 2 | 3 => 3 | 9 => 9 | 4 => 4 | 171 => 302 | 0 => 0 | 53 => 291 | 37 => 55 | 5 => 5 | 173 => 304 | 212 => 307 | 51 => 279 | 20 => 20 | 213 => 308 | 46 => 278 | 232 => 309 | 233 => 310 | n => n, fun | 17 => 0 | 18 => 1 | 19 => 2 | n => n⟩
theorem Tryz.laysM246 : Go.Proofs.LaysM.n246 Tryz.prog Tryz.laysM246_ren := {
  mixed := by kernel_rfl
  f129 := Tryz.func274.trans (congrArg some (by kernel_rfl))
  f246 := Tryz.func282.trans (congrArg some (by kernel_rfl))
  f283 := Tryz.func284.trans (congrArg some (by kernel_rfl))
  f284 := Tryz.func285.trans (congrArg some (by kernel_rfl))
  f285 := Tryz.func286.trans (congrArg some (by kernel_rfl))
  f286 := Tryz.func287.trans (congrArg some (by kernel_rfl))
  f317 := Tryz.func288.trans (congrArg some (by kernel_rfl))
  f318 := Tryz.func289.trans (congrArg some (by kernel_rfl))
  f319 := Tryz.func290.trans (congrArg some (by kernel_rfl))
  f320 := Tryz.func291.trans (congrArg some (by kernel_rfl))
  f337 := Tryz.func292.trans (congrArg some (by kernel_rfl))
  f338 := Tryz.func293.trans (congrArg some (by kernel_rfl))
  t0 := Tryz.underlying0
  a0 := Tryz.isAgg0
  z0 := Tryz.sizeOf0
  v0 := Tryz.zeroValue0
  t2 := Tryz.underlying2
  a2 := Tryz.isAgg2
  z2 := Tryz.sizeOf2
  v2 := Tryz.zeroValue2
  t3 := Tryz.underlying3
  a3 := Tryz.isAgg3
  z3 := Tryz.sizeOf3
  v3 := Tryz.zeroValue3
  t4 := Tryz.underlying4
  a4 := Tryz.isAgg4
  z4 := Tryz.sizeOf4
  v4 := Tryz.zeroValue4
  t5 := Tryz.underlying5
  a5 := Tryz.isAgg5
  z5 := Tryz.sizeOf5
  v5 := Tryz.zeroValue5
  t9 := Tryz.underlying9
  a9 := Tryz.isAgg9
  z9 := Tryz.sizeOf9
  v9 := Tryz.zeroValue9
  t20 := Tryz.underlying20
  a20 := Tryz.isAgg20
  z20 := Tryz.sizeOf20
  v20 := Tryz.zeroValue20
  t37 := Tryz.underlying55
  a37 := Tryz.isAgg55
  z37 := Tryz.sizeOf55
  v37 := Tryz.zeroValue55
  t46 := Tryz.underlying278
  a46 := Tryz.isAgg278
  z46 := Tryz.sizeOf278
  v46 := Tryz.zeroValue278
  t51 := Tryz.underlying279
  a51 := Tryz.isAgg279
  z51 := Tryz.sizeOf279
  v51 := Tryz.zeroValue279
  t53 := Tryz.underlying291
  a53 := Tryz.isAgg291
  z53 := Tryz.sizeOf291
  v53 := Tryz.zeroValue291
  t171 := Tryz.underlying302
  a171 := Tryz.isAgg302
  z171 := Tryz.sizeOf302
  v171 := Tryz.zeroValue302
  t173 := Tryz.underlying304
  a173 := Tryz.isAgg304
  z173 := Tryz.sizeOf304
  v173 := Tryz.zeroValue304
  t212 := Tryz.underlying307
  a212 := Tryz.isAgg307
  z212 := Tryz.sizeOf307
  v212 := Tryz.zeroValue307
  t213 := Tryz.underlying308
  a213 := Tryz.isAgg308
  z213 := Tryz.sizeOf308
  t232 := Tryz.underlying309
  a232 := Tryz.isAgg309
  z232 := Tryz.sizeOf309
  v232 := Tryz.zeroValue309
  t233 := Tryz.underlying310
  a233 := Tryz.isAgg310
  z233 := Tryz.sizeOf310
  v233 := Tryz.zeroValue310
  g17 := by kernel_rfl
  g18 := by kernel_rfl
  g19 := by kernel_rfl
  i0 := by kernel_rfl
  i2 := by kernel_rfl
  i3 := by kernel_rfl
  i4 := by kernel_rfl
  i5 := by kernel_rfl
  i9 := by kernel_rfl
  i20 := by kernel_rfl
  i37 := by kernel_rfl
  i46 := by kernel_rfl
  i51 := by kernel_rfl
  i53 := by kernel_rfl
  i171 := by kernel_rfl
  i173 := by kernel_rfl
  i212 := by kernel_rfl
  i232 := by kernel_rfl
  i233 := by kernel_rfl
  m17 := by kernel_rfl
  m18 := by kernel_rfl
  m19 := by kernel_rfl }
open Go.RowKit Go.Sort Go.Lib in
theorem Tryz.internal_strconv_FormatInt_10 (n : Int) (h0 : -9223372036854775808 ≤ n) (h1 : n ≤ 9223372036854775807) (w : World) (htab : Lib.TabIs Tryz.prog w "internal/strconv.uint64pow10" .u64 Lib.pow10Tab) :
    Calls Tryz.prog 282 #[.int .i64 n, .int .i64 10] w fun e w' => e = .returned (.string ⟨(Lib.itoa n).toArray⟩) ∧ ∃ k os, w' = grow (w.drewN k) os := Any.internal_strconv_FormatInt_10 Tryz.laysM246 n h0 h1 w htab
def Tryz.lays246_ren : Go.Shelf.Ren := ⟨fun | 246 => 282 | 283 => 284 | 284 => 285 | 285 => 286 | 286 => 287 | 129 => 274 | 317 => 288 | 318 => 289 | 319 => 290 | 320 => 291 | 337 => 292 | 338 => 293 | n => n, fun | 2 => 2 | 3 => 3 | 9 => 9 | 4 => 4 | 171 => 302 | 0 => 0 | 53 => 291 | 37 => 55 | 5 => 5 | 173 => 304 | 212 => 307 | 51 => 279 | 20 => 20 | 213 => 308 | 46 => 278 | 232 => 309 | 233 => 310 | n => n, fun | 17 => 0 | 18 => 1 | 19 => 2 | n => n⟩
theorem Tryz.lays246 : Go.Proofs.Lays.n246 Tryz.prog Tryz.lays246_ren := {
  mixed := by kernel_rfl
  f129 := Tryz.func274.trans (congrArg some (by kernel_rfl))
  f246 := Tryz.func282.trans (congrArg some (by kernel_rfl))
  f283 := Tryz.func284.trans (congrArg some (by kernel_rfl))
  f284 := Tryz.func285.trans (congrArg some (by kernel_rfl))
  f285 := Tryz.func286.trans (congrArg some (by kernel_rfl))
  f286 := Tryz.func287.trans (congrArg some (by kernel_rfl))
  f317 := Tryz.func288.trans (congrArg some (by kernel_rfl))
  f318 := Tryz.func289.trans (congrArg some (by kernel_rfl))
  f319 := Tryz.func290.trans (congrArg some (by kernel_rfl))
  f320 := Tryz.func291.trans (congrArg some (by kernel_rfl))
  f337 := Tryz.func292.trans (congrArg some (by kernel_rfl))
  f338 := Tryz.func293.trans (congrArg some (by kernel_rfl))
  t0 := Tryz.underlying0
  a0 := Tryz.isAgg0
  z0 := Tryz.sizeOf0
  v0 := Tryz.zeroValue0
  t2 := Tryz.underlying2
  a2 := Tryz.isAgg2
  z2 := Tryz.sizeOf2
  v2 := Tryz.zeroValue2
  t3 := Tryz.underlying3
  a3 := Tryz.isAgg3
  z3 := Tryz.sizeOf3
  v3 := Tryz.zeroValue3
  t4 := Tryz.underlying4
  a4 := Tryz.isAgg4
  z4 := Tryz.sizeOf4
  v4 := Tryz.zeroValue4
  t5 := Tryz.underlying5
  a5 := Tryz.isAgg5
  z5 := Tryz.sizeOf5
  v5 := Tryz.zeroValue5
  t9 := Tryz.underlying9
  a9 := Tryz.isAgg9
  z9 := Tryz.sizeOf9
  v9 := Tryz.zeroValue9
  t20 := Tryz.underlying20
  a20 := Tryz.isAgg20
  z20 := Tryz.sizeOf20
  v20 := Tryz.zeroValue20
  t37 := Tryz.underlying55
  a37 := Tryz.isAgg55
  z37 := Tryz.sizeOf55
  v37 := Tryz.zeroValue55
  t46 := Tryz.underlying278
  a46 := Tryz.isAgg278
  z46 := Tryz.sizeOf278
  v46 := Tryz.zeroValue278
  t51 := Tryz.underlying279
  a51 := Tryz.isAgg279
  z51 := Tryz.sizeOf279
  v51 := Tryz.zeroValue279
  t53 := Tryz.underlying291
  a53 := Tryz.isAgg291
  z53 := Tryz.sizeOf291
  v53 := Tryz.zeroValue291
  t171 := Tryz.underlying302
  a171 := Tryz.isAgg302
  z171 := Tryz.sizeOf302
  v171 := Tryz.zeroValue302
  t173 := Tryz.underlying304
  a173 := Tryz.isAgg304
  z173 := Tryz.sizeOf304
  v173 := Tryz.zeroValue304
  t212 := Tryz.underlying307
  a212 := Tryz.isAgg307
  z212 := Tryz.sizeOf307
  v212 := Tryz.zeroValue307
  t213 := Tryz.underlying308
  a213 := Tryz.isAgg308
  z213 := Tryz.sizeOf308
  t232 := Tryz.underlying309
  a232 := Tryz.isAgg309
  z232 := Tryz.sizeOf309
  v232 := Tryz.zeroValue309
  t233 := Tryz.underlying310
  a233 := Tryz.isAgg310
  z233 := Tryz.sizeOf310
  v233 := Tryz.zeroValue310
  g17 := by kernel_rfl
  g18 := by kernel_rfl
  g19 := by kernel_rfl }
open Go.RowKit Go.Sort Go.Lib in
theorem Tryz.internal_strconv_FormatInt_10_small (i : Nat) (hi : i < 100) (w : World) :
    Calls Tryz.prog 282 #[.int .i64 i, .int .i64 10] w fun e w' => e = .returned (.string ⟨(Lib.decDigits i).toArray⟩) ∧ w' = w := Any.internal_strconv_FormatInt_10_small Tryz.lays246 i hi w
def Tryz.laysM243_ren : Go.Shelf.Ren := ⟨fun | 243 => 275 | 246 => 282 | 283 => 284 | 284 => 285 | 285 => 286 | 286 => 287 | 129 => 274 | 317 => 288 | 318 => 289 | 319 => 290 | 320 => 291 | 337 => 292 | 338 => 293 | n => n, fun | 3 => 3 | 9 => 9 | 2 => 2 | 4 => 4 | 171 => 302 | 0 => 0 | 53 => 291 | 37 => 55 | 5 => 5 | 173 => 304 | 212 => 307 | 51 => 279 | 20 => 20 | 213 => 308 | 46 => 278 | 232 => 309 | 233 => 310 | n => n, fun | 17 => 0 | 18 => 1 | 19 => 2 | n => n⟩
theorem Tryz.laysM243 : Go.Proofs.LaysM.n243 Tryz.prog Tryz.laysM243_ren := {
  mixed := by kernel_rfl
  f129 := Tryz.func274.trans (congrArg some (by kernel_rfl))
  f243 := Tryz.func275.trans (congrArg some (by kernel_rfl))
  f246 := Tryz.func282.trans (congrArg some (by kernel_rfl))
  f283 := Tryz.func284.trans (congrArg some (by kernel_rfl))
  f284 := Tryz.func285.trans (congrArg some (by kernel_rfl))
  f285 := Tryz.func286.trans (congrArg some (by kernel_rfl))
  f286 := Tryz.func287.trans (congrArg some (by kernel_rfl))
  f317 := Tryz.func288.trans (congrArg some (by kernel_rfl))
  f318 := Tryz.func289.trans (congrArg some (by kernel_rfl))
  f319 := Tryz.func290.trans (congrArg some (by kernel_rfl))
  f320 := Tryz.func291.trans (congrArg some (by kernel_rfl))
  f337 := Tryz.func292.trans (congrArg some (by kernel_rfl))
  f338 := Tryz.func293.trans (congrArg some (by kernel_rfl))
  t0 := Tryz.underlying0
  a0 := Tryz.isAgg0
  z0 := Tryz.sizeOf0
  v0 := Tryz.zeroValue0
  t2 := Tryz.underlying2
  a2 := Tryz.isAgg2
  z2 := Tryz.sizeOf2
  v2 := Tryz.zeroValue2
  t3 := Tryz.underlying3
  a3 := Tryz.isAgg3
  z3 := Tryz.sizeOf3
  v3 := Tryz.zeroValue3
  t4 := Tryz.underlying4
  a4 := Tryz.isAgg4
  z4 := Tryz.sizeOf4
  v4 := Tryz.zeroValue4
  t5 := Tryz.underlying5
  a5 := Tryz.isAgg5
  z5 := Tryz.sizeOf5
  v5 := Tryz.zeroValue5
  t9 := Tryz.underlying9
  a9 := Tryz.isAgg9
  z9 := Tryz.sizeOf9
  v9 := Tryz.zeroValue9
  t20 := Tryz.underlying20
  a20 := Tryz.isAgg20
  z20 := Tryz.sizeOf20
  v20 := Tryz.zeroValue20
  t37 := Tryz.underlying55
  a37 := Tryz.isAgg55
  z37 := Tryz.sizeOf55
  v37 := Tryz.zeroValue55
  t46 := Tryz.underlying278
  a46 := Tryz.isAgg278
  z46 := Tryz.sizeOf278
  v46 := Tryz.zeroValue278
  t51 := Tryz.underlying279
  a51 := Tryz.isAgg279
  z51 := Tryz.sizeOf279
  v51 := Tryz.zeroValue279
  t53 := Tryz.underlying291
  a53 := Tryz.isAgg291
  z53 := Tryz.sizeOf291
  v53 := Tryz.zeroValue291
  t171 := Tryz.underlying302
  a171 := Tryz.isAgg302
  z171 := Tryz.sizeOf302
  v171 := Tryz.zeroValue302
  t173 := Tryz.underlying304
  a173 := Tryz.isAgg304
  z173 := Tryz.sizeOf304
  v173 := Tryz.zeroValue304
  t212 := Tryz.underlying307
  a212 := Tryz.isAgg307
  z212 := Tryz.sizeOf307
  v212 := Tryz.zeroValue307
  t213 := Tryz.underlying308
  a213 := Tryz.isAgg308
  z213 := Tryz.sizeOf308
  t232 := Tryz.underlying309
  a232 := Tryz.isAgg309
  z232 := Tryz.sizeOf309
  v232 := Tryz.zeroValue309
  t233 := Tryz.underlying310
  a233 := Tryz.isAgg310
  z233 := Tryz.sizeOf310
  v233 := Tryz.zeroValue310
  g17 := by kernel_rfl
  g18 := by kernel_rfl
  g19 := by kernel_rfl
  i0 := by kernel_rfl
  i2 := by kernel_rfl
  i3 := by kernel_rfl
  i4 := by kernel_rfl
  i5 := by kernel_rfl
  i9 := by kernel_rfl
  i20 := by kernel_rfl
  i37 := by kernel_rfl
  i46 := by kernel_rfl
  i51 := by kernel_rfl
  i53 := by kernel_rfl
  i171 := by kernel_rfl
  i173 := by kernel_rfl
  i212 := by kernel_rfl
  i232 := by kernel_rfl
  i233 := by kernel_rfl
  m17 := by kernel_rfl
  m18 := by kernel_rfl
  m19 := by kernel_rfl }
open Go.RowKit Go.Sort Go.Lib in
theorem Tryz.internal_strconv_Itoa (n : Int) (h0 : -9223372036854775808 ≤ n) (h1 : n ≤ 9223372036854775807) (w : World) (htab : Lib.TabIs Tryz.prog w "internal/strconv.uint64pow10" .u64 Lib.pow10Tab) :
    Calls Tryz.prog 275 #[.int .i64 n] w fun e w' => e = .returned (.string ⟨(Lib.itoa n).toArray⟩) ∧ ∃ k os, w' = grow (w.drewN k) os := Any.internal_strconv_Itoa Tryz.laysM243 n h0 h1 w htab
def Tryz.lays243_ren : Go.Shelf.Ren := ⟨fun | 243 => 275 | 246 => 282 | 283 => 284 | 284 => 285 | 285 => 286 | 286 => 287 | 129 => 274 | 317 => 288 | 318 => 289 | 319 => 290 | 320 => 291 | 337 => 292 | 338 => 293 | n => n, fun | 3 => 3 | 9 => 9 | 2 => 2 | 4 => 4 | 171 => 302 | 0 => 0 | 53 => 291 | 37 => 55 | 5 => 5 | 173 => 304 | 212 => 307 | 51 => 279 | 20 => 20 | 213 => 308 | 46 => 278 | 232 => 309 | 233 => 310 | n => n, fun | 17 => 0 | 18 => 1 | 19 => 2 | n => n⟩
theorem Tryz.lays243 : Go.Proofs.Lays.n243 Tryz.prog Tryz.lays243_ren := {
  mixed := by kernel_rfl
  f129 := Tryz.func274.trans (congrArg some (by kernel_rfl))
  f243 := Tryz.func275.trans (congrArg some (by kernel_rfl))
  f246 := Tryz.func282.trans (congrArg some (by kernel_rfl))
  f283 := Tryz.func284.trans (congrArg some (by kernel_rfl))
  f284 := Tryz.func285.trans (congrArg some (by kernel_rfl))
  f285 := Tryz.func286.trans (congrArg some (by kernel_rfl))
  f286 := Tryz.func287.trans (congrArg some (by kernel_rfl))
  f317 := Tryz.func288.trans (congrArg some (by kernel_rfl))
  f318 := Tryz.func289.trans (congrArg some (by kernel_rfl))
  f319 := Tryz.func290.trans (congrArg some (by kernel_rfl))
  f320 := Tryz.func291.trans (congrArg some (by kernel_rfl))
  f337 := Tryz.func292.trans (congrArg some (by kernel_rfl))
  f338 := Tryz.func293.trans (congrArg some (by kernel_rfl))
  t0 := Tryz.underlying0
  a0 := Tryz.isAgg0
  z0 := Tryz.sizeOf0
  v0 := Tryz.zeroValue0
  t2 := Tryz.underlying2
  a2 := Tryz.isAgg2
  z2 := Tryz.sizeOf2
  v2 := Tryz.zeroValue2
  t3 := Tryz.underlying3
  a3 := Tryz.isAgg3
  z3 := Tryz.sizeOf3
  v3 := Tryz.zeroValue3
  t4 := Tryz.underlying4
  a4 := Tryz.isAgg4
  z4 := Tryz.sizeOf4
  v4 := Tryz.zeroValue4
  t5 := Tryz.underlying5
  a5 := Tryz.isAgg5
  z5 := Tryz.sizeOf5
  v5 := Tryz.zeroValue5
  t9 := Tryz.underlying9
  a9 := Tryz.isAgg9
  z9 := Tryz.sizeOf9
  v9 := Tryz.zeroValue9
  t20 := Tryz.underlying20
  a20 := Tryz.isAgg20
  z20 := Tryz.sizeOf20
  v20 := Tryz.zeroValue20
  t37 := Tryz.underlying55
  a37 := Tryz.isAgg55
  z37 := Tryz.sizeOf55
  v37 := Tryz.zeroValue55
  t46 := Tryz.underlying278
  a46 := Tryz.isAgg278
  z46 := Tryz.sizeOf278
  v46 := Tryz.zeroValue278
  t51 := Tryz.underlying279
  a51 := Tryz.isAgg279
  z51 := Tryz.sizeOf279
  v51 := Tryz.zeroValue279
  t53 := Tryz.underlying291
  a53 := Tryz.isAgg291
  z53 := Tryz.sizeOf291
  v53 := Tryz.zeroValue291
  t171 := Tryz.underlying302
  a171 := Tryz.isAgg302
  z171 := Tryz.sizeOf302
  v171 := Tryz.zeroValue302
  t173 := Tryz.underlying304
  a173 := Tryz.isAgg304
  z173 := Tryz.sizeOf304
  v173 := Tryz.zeroValue304
  t212 := Tryz.underlying307
  a212 := Tryz.isAgg307
  z212 := Tryz.sizeOf307
  v212 := Tryz.zeroValue307
  t213 := Tryz.underlying308
  a213 := Tryz.isAgg308
  z213 := Tryz.sizeOf308
  t232 := Tryz.underlying309
  a232 := Tryz.isAgg309
  z232 := Tryz.sizeOf309
  v232 := Tryz.zeroValue309
  t233 := Tryz.underlying310
  a233 := Tryz.isAgg310
  z233 := Tryz.sizeOf310
  v233 := Tryz.zeroValue310
  g17 := by kernel_rfl
  g18 := by kernel_rfl
  g19 := by kernel_rfl }
open Go.RowKit Go.Sort Go.Lib in
theorem Tryz.internal_strconv_Itoa_small (i : Nat) (hi : i < 100) (w : World) :
    Calls Tryz.prog 275 #[.int .i64 i] w fun e w' => e = .returned (.string ⟨(Lib.decDigits i).toArray⟩) ∧ w' = w := Any.internal_strconv_Itoa_small Tryz.lays243 i hi w
def Tryz.laysM171_ren : Go.Shelf.Ren := ⟨fun | 171 => 263 | 243 => 275 | 246 => 282 | 283 => 284 | 284 => 285 | 285 => 286 | 286 => 287 | 129 => 274 | 317 => 288 | 318 => 289 | 319 => 290 | 320 => 291 | 337 => 292 | 338 => 293 | n => n, fun | 3 => 3 | 9 => 9 | 2 => 2 | 4 => 4 | 171 => 302 | 0 => 0 | 53 => 291 | 37 => 55 | 5 => 5 | 173 => 304 | 212 => 307 | 51 => 279 | 20 => 20 | 213 => 308 | 46 => 278 | 232 => 309 | 233 => 310 | n => n, fun | 17 => 0 | 18 => 1 | 19 => 2 | n => n⟩
theorem Tryz.laysM171 : Go.Proofs.LaysM.n171 Tryz.prog Tryz.laysM171_ren := {
  mixed := by kernel_rfl
  f129 := Tryz.func274.trans (congrArg some (by kernel_rfl))
  f171 := Tryz.func263.trans (congrArg some (by kernel_rfl))
  f243 := Tryz.func275.trans (congrArg some (by kernel_rfl))
  f246 := Tryz.func282.trans (congrArg some (by kernel_rfl))
  f283 := Tryz.func284.trans (congrArg some (by kernel_rfl))
  f284 := Tryz.func285.trans (congrArg some (by kernel_rfl))
  f285 := Tryz.func286.trans (congrArg some (by kernel_rfl))
  f286 := Tryz.func287.trans (congrArg some (by kernel_rfl))
  f317 := Tryz.func288.trans (congrArg some (by kernel_rfl))
  f318 := Tryz.func289.trans (congrArg some (by kernel_rfl))
  f319 := Tryz.func290.trans (congrArg some (by kernel_rfl))
  f320 := Tryz.func291.trans (congrArg some (by kernel_rfl))
  f337 := Tryz.func292.trans (congrArg some (by kernel_rfl))
  f338 := Tryz.func293.trans (congrArg some (by kernel_rfl))
  t0 := Tryz.underlying0
  a0 := Tryz.isAgg0
  z0 := Tryz.sizeOf0
  v0 := Tryz.zeroValue0
  t2 := Tryz.underlying2
  a2 := Tryz.isAgg2
  z2 := Tryz.sizeOf2
  v2 := Tryz.zeroValue2
  t3 := Tryz.underlying3
  a3 := Tryz.isAgg3
  z3 := Tryz.sizeOf3
  v3 := Tryz.zeroValue3
  t4 := Tryz.underlying4
  a4 := Tryz.isAgg4
  z4 := Tryz.sizeOf4
  v4 := Tryz.zeroValue4
  t5 := Tryz.underlying5
  a5 := Tryz.isAgg5
  z5 := Tryz.sizeOf5
  v5 := Tryz.zeroValue5
  t9 := Tryz.underlying9
  a9 := Tryz.isAgg9
  z9 := Tryz.sizeOf9
  v9 := Tryz.zeroValue9
  t20 := Tryz.underlying20
  a20 := Tryz.isAgg20
  z20 := Tryz.sizeOf20
  v20 := Tryz.zeroValue20
  t37 := Tryz.underlying55
  a37 := Tryz.isAgg55
  z37 := Tryz.sizeOf55
  v37 := Tryz.zeroValue55
  t46 := Tryz.underlying278
  a46 := Tryz.isAgg278
  z46 := Tryz.sizeOf278
  v46 := Tryz.zeroValue278
  t51 := Tryz.underlying279
  a51 := Tryz.isAgg279
  z51 := Tryz.sizeOf279
  v51 := Tryz.zeroValue279
  t53 := Tryz.underlying291
  a53 := Tryz.isAgg291
  z53 := Tryz.sizeOf291
  v53 := Tryz.zeroValue291
  t171 := Tryz.underlying302
  a171 := Tryz.isAgg302
  z171 := Tryz.sizeOf302
  v171 := Tryz.zeroValue302
  t173 := Tryz.underlying304
  a173 := Tryz.isAgg304
  z173 := Tryz.sizeOf304
  v173 := Tryz.zeroValue304
  t212 := Tryz.underlying307
  a212 := Tryz.isAgg307
  z212 := Tryz.sizeOf307
  v212 := Tryz.zeroValue307
  t213 := Tryz.underlying308
  a213 := Tryz.isAgg308
  z213 := Tryz.sizeOf308
  t232 := Tryz.underlying309
  a232 := Tryz.isAgg309
  z232 := Tryz.sizeOf309
  v232 := Tryz.zeroValue309
  t233 := Tryz.underlying310
  a233 := Tryz.isAgg310
  z233 := Tryz.sizeOf310
  v233 := Tryz.zeroValue310
  g17 := by kernel_rfl
  g18 := by kernel_rfl
  g19 := by kernel_rfl
  i0 := by kernel_rfl
  i2 := by kernel_rfl
  i3 := by kernel_rfl
  i4 := by kernel_rfl
  i5 := by kernel_rfl
  i9 := by kernel_rfl
  i20 := by kernel_rfl
  i37 := by kernel_rfl
  i46 := by kernel_rfl
  i51 := by kernel_rfl
  i53 := by kernel_rfl
  i171 := by kernel_rfl
  i173 := by kernel_rfl
  i212 := by kernel_rfl
  i232 := by kernel_rfl
  i233 := by kernel_rfl
  m17 := by kernel_rfl
  m18 := by kernel_rfl
  m19 := by kernel_rfl }
open Go.RowKit Go.Sort Go.Lib in
theorem Tryz.strconv_Itoa (n : Int) (h0 : -9223372036854775808 ≤ n) (h1 : n ≤ 9223372036854775807) (w : World) (htab : Lib.TabIs Tryz.prog w "internal/strconv.uint64pow10" .u64 Lib.pow10Tab) :
    Calls Tryz.prog 263 #[.int .i64 n] w fun e w' => e = .returned (.string ⟨(Lib.itoa n).toArray⟩) ∧ ∃ k os, w' = grow (w.drewN k) os := Any.strconv_Itoa Tryz.laysM171 n h0 h1 w htab
def Tryz.lays171_ren : Go.Shelf.Ren := ⟨fun | 171 => 263 | 243 => 275 | 246 => 282 | 283 => 284 | 284 => 285 | 285 => 286 | 286 => 287 | 129 => 274 | 317 => 288 | 318 => 289 | 319 => 290 | 320 => 291 | 337 => 292 | 338 => 293 | n => n, fun | 3 => 3 | 9 => 9 | 2 => 2 | 4 => 4 | 171 => 302 | 0 => 0 | 53 => 291 | 37 => 55 | 5 => 5 | 173 => 304 | 212 => 307 | 51 => 279 | 20 => 20 | 213 => 308 | 46 => 278 | 232 => 309 | 233 => 310 | n => n, fun | 17 => 0 | 18 => 1 | 19 => 2 | n => n⟩
theorem Tryz.lays171 : Go.Proofs.Lays.n171 Tryz.prog Tryz.lays171_ren := {
  mixed := by kernel_rfl
  f129 := Tryz.func274.trans (congrArg some (by kernel_rfl))
  f171 := Tryz.func263.trans (congrArg some (by kernel_rfl))
  f243 := Tryz.func275.trans (congrArg some (by kernel_rfl))
  f246 := Tryz.func282.trans (congrArg some (by kernel_rfl))
  f283 := Tryz.func284.trans (congrArg some (by kernel_rfl))
  f284 := Tryz.func285.trans (congrArg some (by kernel_rfl))
  f285 := Tryz.func286.trans (congrArg some (by kernel_rfl))
  f286 := Tryz.func287.trans (congrArg some (by kernel_rfl))
  f317 := Tryz.func288.trans (congrArg some (by kernel_rfl))
  f318 := Tryz.func289.trans (congrArg some (by kernel_rfl))
  f319 := Tryz.func290.trans (congrArg some (by kernel_rfl))
  f320 := Tryz.func291.trans (congrArg some (by kernel_rfl))
  f337 := Tryz.func292.trans (congrArg some (by kernel_rfl))
  f338 := Tryz.func293.trans (congrArg some (by kernel_rfl))
  t0 := Tryz.underlying0
  a0 := Tryz.isAgg0
  z0 := Tryz.sizeOf0
  v0 := Tryz.zeroValue0
  t2 := Tryz.underlying2
  a2 := Tryz.isAgg2
  z2 := Tryz.sizeOf2
  v2 := Tryz.zeroValue2
  t3 := Tryz.underlying3
  a3 := Tryz.isAgg3
  z3 := Tryz.sizeOf3
  v3 := Tryz.zeroValue3
  t4 := Tryz.underlying4
  a4 := Tryz.isAgg4
  z4 := Tryz.sizeOf4
  v4 := Tryz.zeroValue4
  t5 := Tryz.underlying5
  a5 := Tryz.isAgg5
  z5 := Tryz.sizeOf5
  v5 := Tryz.zeroValue5
  t9 := Tryz.underlying9
  a9 := Tryz.isAgg9
  z9 := Tryz.sizeOf9
  v9 := Tryz.zeroValue9
  t20 := Tryz.underlying20
  a20 := Tryz.isAgg20
  z20 := Tryz.sizeOf20
  v20 := Tryz.zeroValue20
  t37 := Tryz.underlying55
  a37 := Tryz.isAgg55
  z37 := Tryz.sizeOf55
  v37 := Tryz.zeroValue55
  t46 := Tryz.underlying278
  a46 := Tryz.isAgg278
  z46 := Tryz.sizeOf278
  v46 := Tryz.zeroValue278
  t51 := Tryz.underlying279
  a51 := Tryz.isAgg279
  z51 := Tryz.sizeOf279
  v51 := Tryz.zeroValue279
  t53 := Tryz.underlying291
  a53 := Tryz.isAgg291
  z53 := Tryz.sizeOf291
  v53 := Tryz.zeroValue291
  t171 := Tryz.underlying302
  a171 := Tryz.isAgg302
  z171 := Tryz.sizeOf302
  v171 := Tryz.zeroValue302
  t173 := Tryz.underlying304
  a173 := Tryz.isAgg304
  z173 := Tryz.sizeOf304
  v173 := Tryz.zeroValue304
  t212 := Tryz.underlying307
  a212 := Tryz.isAgg307
  z212 := Tryz.sizeOf307
  v212 := Tryz.zeroValue307
  t213 := Tryz.underlying308
  a213 := Tryz.isAgg308
  z213 := Tryz.sizeOf308
  t232 := Tryz.underlying309
  a232 := Tryz.isAgg309
  z232 := Tryz.sizeOf309
  v232 := Tryz.zeroValue309
  t233 := Tryz.underlying310
  a233 := Tryz.isAgg310
  z233 := Tryz.sizeOf310
  v233 := Tryz.zeroValue310
  g17 := by kernel_rfl
  g18 := by kernel_rfl
  g19 := by kernel_rfl }
open Go.RowKit Go.Sort Go.Lib in
theorem Tryz.strconv_Itoa_small (i : Nat) (hi : i < 100) (w : World) :
    Calls Tryz.prog 263 #[.int .i64 i] w fun e w' => e = .returned (.string ⟨(Lib.decDigits i).toArray⟩) ∧ w' = w := Any.strconv_Itoa_small Tryz.lays171 i hi w
end Go.Proofs
namespace Go.Proofs.YtpeohbkigkfcgaaGreatDoor.Kt
open Go Go.ChangeShapes Go.WideShapes Go.ChangeAt Go.RowKit Go.Sort
def Pw (w : World) : Prop := Lib.TabIs Tryz.prog w "internal/strconv.uint64pow10" .u64 Lib.pow10Tab
theorem pw_no : Tryz.prog.globalNamed "internal/strconv.uint64pow10" = some 0 := by kernel_rfl
theorem Pw.keep {w w' : World} (h : Pw w) (hb : w'.heap[0]? = w.heap[0]?) : Pw w' := by
 unfold Pw Lib.TabIs World.var? at h ⊢
 rw [pw_no] at h ⊢
 simp only [Option.bind_some] at h ⊢
 rw [hb]
 exact h
theorem Pw.lt {w : World} (h : Pw w) : 0 < w.heap.size := by
 unfold Pw Lib.TabIs World.var? at h
 rw [pw_no] at h
 simp only [Option.bind_some] at h
 rcases Nat.lt_or_ge 0 w.heap.size with h' | h'
 ·exact h'
 ·rw [Array.getElem?_eq_none h'] at h; cases h
theorem Pw.below {w w' : World} (h : Pw w) (hb : Below w.heap.size w w') : Pw w' := h.keep (hb.block 0 h.lt)
def Grn (w w' : World) : Prop := ∃ q os, w' = grow (w.drewN q) os
theorem Grn.trans {a b c : World} (h : Grn a b) (k : Grn b c) : Grn a c := by
 obtain ⟨q, os, rfl⟩ := h
 obtain ⟨q', os', rfl⟩ := k
 exact ⟨q + q', os ++ os', by show grow (grow ((a.drewN q).drewN q') os) os' = _; rw [grow_grow, World.drewN_drewN]⟩
theorem Grn.refl (w : World) : Grn w w := ⟨0, #[], by rw [grow_empty]; rfl⟩
theorem Grn.below {w w' : World} (h : Grn w w') : Below w.heap.size w w' := by
 obtain ⟨q, os, rfl⟩ := h
 exact ⟨rfl, rfl, rfl, by simp, fun k hk => heap_grow_old (w.drewN q) os hk⟩
def itS (n : Nat) : ByteArray := ⟨(Lib.itoa (n : Int)).toArray⟩
theorem itoa_any (n : Nat) (hn : n < 1000000) (w : World) (h : Pw w) : Calls Tryz.prog 263 #[.int .i64 (n : Int)] w fun e w' => e = .returned (.string (itS n)) /\ Grn w w' :=
 (Tryz.strconv_Itoa (n : Int) (by omega) (by omega) w h)
theorem itS_size (n : Nat) (hn : n < 1000000) : (itS n).size <= 21 := by
 have h := Lib.itoa_length_le (n : Int) (by omega) (by omega)
 simpa [itS, ByteArray.size] using h
def mkS (id k : Nat) : ByteArray := (⟨#[109, 97, 114, 107, 32]⟩ : ByteArray) ++ itS id ++ (⟨#[32]⟩ : ByteArray) ++ itS k
theorem text_any (id k : Nat) (hid : id < 1000000) (hk : k < 1000000) (w : World) (h : Pw w) : Calls Tryz.prog 258 #[.int .i64 (id : Int), .int .i64 (k : Int)] w fun e w' => e = .returned (.string (mkS id k)) /\ Grn w w' := by
 have d1 := hide (itoa_any id hid w h)
 have HP := hide h
 have s1 := itS_size id hid
 have s2 := itS_size k hk
 have n1 : ¬ 9223372036854775807 < 5 + (itS id).size := by omega
 have n2 : ¬ 9223372036854775807 < 5 + (itS id).size + 1 := by omega
 have n3 : ¬ 9223372036854775807 < 5 + (itS id).size + 1 + (itS k).size := by omega
 clear h
 go_enter Tryz.func258, Tryz.ntmps258
 go_wp2_with fail
 refine (uh d1).mono ?_
 rintro e w1 ⟨rfl, hg⟩
 have G1 := hide hg
 have d2 := hide (itoa_any k hk w1 ((uh HP).below hg.below))
 clear hg
 go_wp2_with fail
 refine (uh d2).mono ?_
 rintro e w2 ⟨rfl, hg⟩
 have G2 := hide hg
 clear hg
 go_wp2_with fail
 go_ret
 exact ⟨rfl, (uh G1).trans (uh G2)⟩
theorem mark_any (id k : Nat) (hid : id < 1000000) (hk : k < 1000000) (w : World) (h : Pw w) : Calls Tryz.prog 222 #[.int .i64 (id : Int), .int .i64 (k : Int)] w fun e w' => e = .returned (.string (mkS id k)) /\ Grn w w' := by
 have d := hide (text_any id k hid hk w h)
 clear h
 go_enter Tryz.func222, Tryz.ntmps222
 go_wp2_with fail
 refine (uh d).mono ?_
 rintro e w1 ⟨rfl, hg⟩
 have G1 := hide hg
 clear hg
 go_wp2_with fail
 go_ret
 exact ⟨rfl, uh G1⟩
theorem behind_any (id : Nat) (hid : id < 1000) (w : World) : Calls Tryz.prog 218 #[.int .i64 (id : Int)] w fun e w' => e = .returned (.int .i64 ((id + 100000 : Nat) : Int)) /\ w' = w := by
 go_enter Tryz.func218, Tryz.ntmps218
 go_wp2_with fail
 go_ret
 exact ⟨by simp, rfl⟩
theorem sameT (a : ByteArray) (w : World) : Calls Tryz.prog 221 #[.string a, .string a] w fun e w' => e = .returned (.bool true) /\ w' = w := by
 go_enter Tryz.func221, Tryz.ntmps221
 go_wp2_with fail
 go_ret
 exact ⟨by simp, rfl⟩
end Go.Proofs.YtpeohbkigkfcgaaGreatDoor.Kt
namespace Go.Proofs.YtpeohbkigkfcgaaGreatDoor.Kt
open Go Go.ChangeShapes Go.WideShapes Go.ChangeAt Go.RowKit
attribute [local go_sem] setCell_drewN alloc_drewN
theorem id_any (bk k : Nat) (hk : k < 1000) (w : World) (h : w.cell? ⟨bk, 6, none⟩ = some (.int .i64 (k : Int))) (hf : w.frozen? ⟨bk, 6, none⟩ = false) : Calls Tryz.prog 215 #[.pointer (some ⟨bk, 6, none⟩)] w fun e w' => e = .returned (.int .i64 ((k : Int) + 1)) /\ w' = w.setCell ⟨bk, 6, none⟩ (.int .i64 ((k : Int) + 1)) := by
 have h2 : (w.setCell ⟨bk, 6, none⟩ (.int .i64 ((k : Int) + 1))).cell? ⟨bk, 6, none⟩ = some (.int .i64 ((k : Int) + 1)) := World.cell?_setCell_same _ _ _ h
 go_enter Tryz.func215, Tryz.ntmps215
 go_wp2_with fail
 go_ret
 exact ⟨rfl, rfl⟩
def mixN (id : Nat) (f : Nat -> ByteArray) (k : Nat) : Nat -> ByteArray := fun i => if i < k then mkS id i else f i
structure FillAt (w wr : World) (gb n id : Nat) (f : Nat -> ByteArray) (k : Nat) : Prop where
 gr : w.grownBy wr (some gb)
 lt : gb < wr.heap.size
 cells : ∀ j, j < n -> wr.cell? ⟨gb, j, none⟩ = some (.string (mixN id f k j))
 fz : ∀ j, j < n -> wr.frozen? ⟨gb, j, none⟩ = false
 obj : ∀ S, (∃ cur, w.heap[gb]? = some (.cells cur 9 (0, 0)) /\ cur.size = S) -> ∃ cur, wr.heap[gb]? = some (.cells cur 9 (0, 0)) /\ cur.size = S
theorem obj_set {w : World} {gb k S : Nat} {v : Value} (h : ∃ cur, w.heap[gb]? = some (.cells cur 9 (0, 0)) /\ cur.size = S) : ∃ cur, (w.setCell ⟨gb, k, none⟩ v).heap[gb]? = some (.cells cur 9 (0, 0)) /\ cur.size = S := by
 obtain ⟨cur, h1, h2⟩ := h
 refine ⟨cur.setIfInBounds k v, ?_, by simpa using h2⟩
 simp [World.setCell, Array.getElem?_modify, h1]
theorem FillAt.below {w wr w2 : World} {gb n id k : Nat} {f : Nat -> ByteArray} (h : FillAt w wr gb n id f k) (hb : Below wr.heap.size wr w2) : FillAt w w2 gb n id f k :=
 ⟨h.gr.trans ⟨hb.os, hb.tape, hb.output, hb.size, fun i hi _ => hb.block i hi⟩, Nat.lt_of_lt_of_le h.lt hb.size, fun j hj => keep1 hb h.lt (h.cells j hj), fun j hj => keepF hb h.lt (h.fz j hj), fun S hS => by rw [hb.block gb h.lt]; exact h.obj S hS⟩
theorem FillAt.step {w wr : World} {gb n id k : Nat} {f : Nat -> ByteArray} (h : FillAt w wr gb n id f k) (hk : k < n) : FillAt w (wr.setCell ⟨gb, k, none⟩ (.string (mkS id k))) gb n id f (k + 1) := by
 refine ⟨h.gr.trans ⟨rfl, rfl, rfl, by simp [World.setCell], fun i hi hne => Below.heap_setCell _ _ _ _ (fun e => hne (by rw [e]))⟩, by simpa using h.lt, fun j hj => ?_, fun j hj => by simpa using h.fz j hj, fun S hS => obj_set (h.obj S hS)⟩
 by_cases e : j = k
 ·subst e
  rw [World.cell?_setCell_same _ _ _ (h.cells j hj)]
  simp [mixN]
 ·rw [World.cell?_setCell_other _ _ _ _ (by intro h'; injection h' with _ h' _; omega), h.cells j hj]
  have : j < k + 1 ↔ j < k := by omega
  simp only [mixN, this]
theorem FillAt.drew {w wr : World} {gb n id k : Nat} {f : Nat -> ByteArray} (h : FillAt w wr gb n id f k) : FillAt w wr.drew gb n id f k :=
 ⟨⟨h.gr.os, h.gr.tape, h.gr.output, h.gr.size, h.gr.block⟩, h.lt, h.cells, h.fz, h.obj⟩
theorem fill_some (pg po gb n cap id : Nat) (f : Nat -> ByteArray) (hn : n <= 4096) (hid : id < 1000) (w : World) (hne : pg ≠ gb) (hL : w.cell? ⟨pg, po, none⟩ = some (.slice (some ⟨gb, 0, none⟩) n cap)) (hI : w.cell? ⟨pg, po + 3, none⟩ = some (.int .i64 (id : Int))) (hD : ∃ v, w.cell? ⟨pg, po + 4, none⟩ = some v) (hDf : w.frozen? ⟨pg, po + 4, none⟩ = false) (hc : ∀ k, k < n -> w.cell? ⟨gb, k, none⟩ = some (.string (f k))) (hfz : ∀ j, j < n -> w.frozen? ⟨gb, j, none⟩ = false) (hlt : gb < w.heap.size) (hP : Pw w) (hg3 : gb ≠ 0) :
  Calls Tryz.prog 157 #[.pointer (some ⟨pg, po, none⟩)] w fun e w' => e = .returned (.tuple #[]) /\ ∃ w1, FillAt w w1 gb n id f n /\ w' = w1.setCell ⟨pg, po + 4, none⟩ (.bool true) := by
 have HF0 : Hid (FillAt w w gb n id f 0) := ⟨⟨rfl, rfl, rfl, Nat.le_refl _, fun _ _ _ => rfl⟩, hlt, fun j hj => by rw [hc j hj]; simp [mixN], hfz, fun _ h => h⟩
 have hpg : pg < w.heap.size := World.block_lt_of_cell? w ⟨pg, po, none⟩ hL
 have HL := hide hL
 have HI := hide hI
 have HD := hide hD
 have HDF := hide hDf
 have HPW := hide hP
 clear hL hI hD hDf hc hfz hP
 go_enter Tryz.func157, Tryz.ntmps157
 go_wp2_with fail
 go_loopw [2] (fun i wr => ∃ k : Nat, k <= n /\ i = .int .i64 (k : Int) /\ FillAt w wr gb n id f k) (fun i _ => n - (intOf i).toNat)
 case atStart => exact ⟨0, by omega, rfl, uh HF0⟩
 case round =>
  obtain ⟨k, hk, rfl, hs⟩ := hrel
  have HS := hide hs
  have l1 : wr.cell? ⟨pg, po, none⟩ = some (.slice (some ⟨gb, 0, none⟩) n cap) := (hs.gr.cell_far ⟨pg, po, none⟩ hpg (by simpa using hne)).trans (uh HL)
  have l2 : wr.cell? ⟨pg, po + 3, none⟩ = some (.int .i64 (id : Int)) := (hs.gr.cell_far ⟨pg, po + 3, none⟩ hpg (by simpa using hne)).trans (uh HI)
  clear HF0
  by_cases hlk : k < n
  ·have c1 := hs.cells k hlk
   have c2 := hs.fz k hlk
   have hpr : pg < wr.heap.size := Nat.lt_of_lt_of_le hpg hs.gr.size
   have hgr' : gb < wr.heap.size := hs.lt
   have hI1 : (k : Int) < (n : Int) := by omega
   have hI0 : (0 : Int) <= (k : Int) := by omega
   have hmk := hide (mark_any id k (by omega) (by omega) wr.drew ((uh HPW).keep (hs.gr.block 0 (uh HPW).lt (by simpa using fun e => hg3 e.symm))))
   clear hs
   have hne' : gb ≠ pg := fun e => hne e.symm
   go_wp2_with fail
   go_region_held3 (fun W => W.cell? ⟨pg, po, none⟩ = some (.slice (some ⟨gb, 0, none⟩) n cap) /\ W.cell? ⟨pg, po + 3, none⟩ = some (.int .i64 (id : Int))) (first | (refine ⟨?_, ?_⟩ <;> with_reducible assumption) | go_keep) ((go_at_call 222; refine (uh hmk).mono ?_; rintro e w2 ⟨rfl, hg⟩; have hb := hg.below; have q1 := keep1 hb hpr l1; have q2 := keep1 hb hpr l2; have q3 := keep1 hb hgr' c1; have q4 := keepF hb hgr' c2; have B2 := hide hb; clear hg hb))
   all_goals
    go_wp2_with fail
    refine ⟨⟨k + 1, by omega, by go_num, ((uh HS).drew.below (uh B2)).step hlk⟩, by simp [intOf]; omega⟩
  ·have hkn : k = n := by omega
   subst hkn
   have hI1 : ¬ (k : Int) < (k : Int) := by omega
   obtain ⟨vd, hvd⟩ := uh HD
   have l3 : wr.cell? ⟨pg, po + 4, none⟩ = some vd := (hs.gr.cell_far ⟨pg, po + 4, none⟩ hpg (by simpa using hne)).trans hvd
   have l4 : wr.frozen? ⟨pg, po + 4, none⟩ = false := (hs.gr.frozen_far ⟨pg, po + 4, none⟩ hpg (by simpa using hne)).trans (uh HDF)
   clear hs hvd
   go_wp2_with fail
   go_end0
   exact ⟨rfl, wr, uh HS, rfl⟩
theorem fill_none (pg po : Nat) (w : World) (hL : w.cell? ⟨pg, po, none⟩ = some (.slice none 0 0)) (hD : ∃ v, w.cell? ⟨pg, po + 4, none⟩ = some v) (hDf : w.frozen? ⟨pg, po + 4, none⟩ = false) :
  Calls Tryz.prog 157 #[.pointer (some ⟨pg, po, none⟩)] w fun e w' => e = .returned (.tuple #[]) /\ w' = w.setCell ⟨pg, po + 4, none⟩ (.bool true) := by
 obtain ⟨vd, hvd⟩ := hD
 go_enter Tryz.func157, Tryz.ntmps157
 go_wp2_with fail
 go_loopw [2] (fun i wr => i = .int .i64 0 /\ wr = w) (fun i _ => 0)
 case atStart => exact ⟨rfl, rfl⟩
 case round =>
  obtain ⟨rfl, rfl⟩ := hrel
  go_wp2_with fail
  go_end0
  exact ⟨rfl, rfl⟩
theorem FillAt.own {w w1 : World} {gb n id B cap : Nat} {f : Nat -> ByteArray} {xs : List Value} (h : FillAt w w1 gb n id f n) (ho : w.ownsRow B 9 1 (.slice (some ⟨gb, 0, none⟩) n cap) n xs) : w1.ownsRow B 9 1 (.slice (some ⟨gb, 0, none⟩) n cap) n (scells (mkS id) n) := by
 refine ⟨by rw [scells_len]; omega, .inr ?_⟩
 rcases ho.2 with ⟨h1, _⟩ | ⟨g, c, cur, h1, hb, hg, hc1, hc2, hsz, _⟩
 ·cases h1
 ·injection h1 with h1 _ h2
  injection h1 with h1
  injection h1 with h1 _ _
  subst h1 h2
  obtain ⟨cur', h3, h4⟩ := h.obj _ ⟨cur, hg, hsz⟩
  refine ⟨gb, cap, cur', rfl, hb, h3, hc1, hc2, h4, ?_⟩
  apply List.ext_getElem?
  intro j
  by_cases hj : j < n
  ·rw [scells_get _ _ _ hj, List.getElem?_take_of_lt (by omega)]
   have hcell := h.cells j hj
   simp only [mixN, hj, if_true] at hcell
   rw [<- hcell]
   simp [World.cell?, h3]
  ·rw [List.getElem?_eq_none (by simp; omega), List.getElem?_eq_none (by rw [scells_len]; omega)]
end Go.Proofs.YtpeohbkigkfcgaaGreatDoor.Kt
namespace Go.Proofs.YtpeohbkigkfcgaaGreatDoor.Kt
open Go Go.ChangeShapes Go.WideShapes Go.ChangeAt Go.RowKit
theorem run_append_keep (w : World) (base : Nat) (ty : TypeId) (i : TypeInfo) (hi : Tryz.prog.info? 9 = some i) (hz : i.zero = some (.string ⟨#[]⟩)) (hsize : i.size = 1) (hby : i.bytes = 16)
  (v : Value) (n : Nat) (xs : List Value) (hown : w.ownsRow base 9 1 v n xs)
  (a : Addr) (m c : Nat) (news : List Value) (hl : news.length = m) (hnews : ∀ j u, news[j]? = some u -> w.cell? (a.add j) = some u) (h1 : ∀ u ∈ news, u.oneCell' = true) (hm : 0 < m)
  (hb : n + m <= 1000000) (hbase : base <= w.heap.size) :
  ∃ g cap w', (Builtin.append_ #[77, 77] ty #[v, .slice (some a) m c]).run Tryz.prog w = .ok (.slice (some ⟨g, 0, none⟩) (n + m) cap) w' /\ w'.ownsRow base 9 1 (.slice (some ⟨g, 0, none⟩) (n + m) cap) (n + m) (xs ++ news) /\ ((v.ownBlock = some g /\ w.grownBy w' (some g)) \/ (g = w.heap.size /\ w.grownBy w' none)) := by
 obtain ⟨v', w', hr, ho, hg, hnil, hat⟩ := run_append_own_at (P := Tryz.prog) w base 77 ty 9 i (.string ⟨#[]⟩) 1 16 Tryz.underlying77 hi hz hsize hby rfl (by decide) v n xs hown a m c news (by omega) hnews h1 (by unfold maxLen; omega) (by omega) hbase
 obtain ⟨g, cap, rfl⟩ := own_open ho (by omega)
 refine ⟨g, cap, w', hr, ho, ?_⟩
 rcases hown.2 with ⟨rfl, h0⟩ | ⟨g0, cap0, cur, rfl, hb0, hcur, hnc, hcm, hcs, htake⟩
 ·rcases hat with h | h
  ·simp [Value.ownBlock] at h
  ·simp [Value.ownBlock] at h
   exact .inr ⟨h, hg⟩
 ·by_cases hf : n + m <= cap0
  ·obtain ⟨w2, hr3, _, hg3⟩ := run_append_fits (P := Tryz.prog) w base 77 ty 9 i 1 Tryz.underlying77 hi hsize g0 n cap0 xs hown a m c news (by omega) hnews h1 hf
   rw [hr] at hr3
   injection hr3 with e1 e2
   injection e1 with e1 _ _
   injection e1 with e1
   injection e1 with e1 _ _
   subst e1 e2
   exact .inl ⟨rfl, hg3⟩
  ·have hr2 := run_append_grow (P := Tryz.prog) w 77 ty 9 i (.string ⟨#[]⟩) Tryz.underlying77 hi hz ⟨g0, 0, none⟩ n cap0 xs (by rw [hsize]; have := hown.1; omega) (hown.cells (g := g0) rfl) a m c news (by rw [hsize]; omega) hnews (by omega) (by omega) (by rw [hby]; exact growslice_fits (by omega) (by omega))
   rw [hr] at hr2
   injection hr2 with e1 e2
   injection e1 with e1 _ _
   injection e1 with e1
   injection e1 with e1 _ _
   refine .inr ⟨e1, ?_⟩
   rw [e2]
   exact ⟨rfl, rfl, rfl, by simp, fun k hk _ => Below.heap_alloc _ _ _ hk⟩
theorem step_append_keep {ops : Array Oper} {o : Oper} {a : Act} {K : Act -> World -> Prop} {Q : Exit -> Act -> World -> Prop} {E : Prop} (w : World) (hgd : o.guard = none) (s x : Operand)
  (ho : o.op = .call { callee := .builtin .append, args := #[s, x], argTypes := #[77, 77] })
  (base : Nat) (i : TypeInfo) (hi : Tryz.prog.info? 9 = some i) (hz : i.zero = some (.string ⟨#[]⟩)) (hsize : i.size = 1) (hby : i.bytes = 16)
  (v : Value) (n : Nat) (xs : List Value) (hs : a.eval s = v) (hown : w.ownsRow base 9 1 v n xs)
  (ad : Addr) (m c : Nat) (news : List Value) (hx : a.eval x = .slice (some ad) m c) (hl : news.length = m) (hnews : ∀ j u, news[j]? = some u -> w.cell? (ad.add j) = some u) (h1 : ∀ u ∈ news, u.oneCell' = true) (hm : 0 < m)
  (hb : n + m <= 1000000) (hbase : base <= w.heap.size)
  (h : ∀ g cap w', w'.ownsRow base 9 1 (.slice (some ⟨g, 0, none⟩) (n + m) cap) (n + m) (xs ++ news) -> ((v.ownBlock = some g /\ w.grownBy w' (some g)) \/ (g = w.heap.size /\ w.grownBy w' none)) -> K (a.put o.dst (.slice (some ⟨g, 0, none⟩) (n + m) cap)) w') :
  if Region.wanted o (yielded ops a.tmps) = true then Oper.wp Tryz.prog o a w K Q else E := by
 have hw : Region.wanted o (yielded ops a.tmps) = true := by simp [Region.wanted, hgd]
 rw [if_pos hw]
 obtain ⟨g, cap, w', hr, h2, h3⟩ := run_append_keep w base o.type i hi hz hsize hby v n xs hown ad m c news hl hnews h1 hm hb hbase
 unfold Oper.wp execOp
 simp only [ho, resolve, invoke, builtin, Sem.run_bind, Sem.run_pure, Result.andThen_ok, List.map_toArray, List.map_cons, List.map_nil, hs, hx, hr]
 exact h g cap w' h2 h3
end Go.Proofs.YtpeohbkigkfcgaaGreatDoor.Kt
namespace Go.Proofs.YtpeohbkigkfcgaaGreatDoor.Kt
open Go Go.ChangeShapes Go.WideShapes Go.ChangeAt Go.RowKit
attribute [local go_sem] setCell_drewN alloc_drewN
structure GrowAt (w : World) (pg po gb n id B : Nat) (j : Nat) (v : Value) (wr : World) : Prop where
 size : w.heap.size <= wr.heap.size
 os : wr.os = w.os
 tape : wr.tape = w.tape
 output : wr.output = w.output
 far : ∀ k, k < w.heap.size -> k ≠ pg -> k ≠ gb -> wr.heap[k]? = w.heap[k]?
 page : ∀ i, i ≠ po + 1 -> wr.cell? ⟨pg, i, none⟩ = w.cell? ⟨pg, i, none⟩
 pagef : ∀ i, wr.frozen? ⟨pg, i, none⟩ = w.frozen? ⟨pg, i, none⟩
 g : wr.cell? ⟨pg, po + 1, none⟩ = some v
 own : wr.ownsRow B 9 1 v (n + j) (scells (cat (mkS id) n (mkS (id + 100000))) (n + j))
 at' : v.ownBlock = some gb \/ ∀ k, v.ownBlock = some k -> w.heap.size <= k
 lst : ∀ k, k < n -> wr.cell? ⟨gb, k, none⟩ = some (.string (mkS id k))
 pobj : ∀ t S, (∃ cur, w.heap[pg]? = some (.cells cur t (0, 0)) /\ cur.size = S) -> ∃ cur, wr.heap[pg]? = some (.cells cur t (0, 0)) /\ cur.size = S
theorem obj_setT {w : World} {gb k S : Nat} {t : TypeId} {v : Value} (h : ∃ cur, w.heap[gb]? = some (.cells cur t (0, 0)) /\ cur.size = S) : ∃ cur, (w.setCell ⟨gb, k, none⟩ v).heap[gb]? = some (.cells cur t (0, 0)) /\ cur.size = S := by
 obtain ⟨cur, h1, h2⟩ := h
 refine ⟨cur.setIfInBounds k v, ?_, by simpa using h2⟩
 simp [World.setCell, Array.getElem?_modify, h1]
theorem GrowAt.ne {w wr : World} {pg po gb n id B j : Nat} {v : Value} (h : GrowAt w pg po gb n id B j v wr) (hne : pg ≠ gb) (hpg : pg < w.heap.size) : ∀ k, v.ownBlock = some k -> k ≠ pg := by
 intro k hk e
 rcases h.at' with h' | h'
 ·rw [h'] at hk
  injection hk with hk
  omega
 ·have := h' k hk
  omega
end Go.Proofs.YtpeohbkigkfcgaaGreatDoor.Kt
