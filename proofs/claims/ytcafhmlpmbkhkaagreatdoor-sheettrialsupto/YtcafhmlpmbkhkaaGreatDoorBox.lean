import Derived.Test.YtcafhmlpmbkhkaaGreatDoorWideC
import Derived.Test.YtcafhmlpmbkhkaaGreatDoorMsN
import Derived.Deep.RegionWith
import Derived.Deep.MidRow
namespace Go.Proofs.YtcafhmlpmbkhkaaGreatDoor.Mw
open Go.ChangeShapes Go.WideShapes Go.ChangeAt Go.RowKit
set_option linter.unusedVariables false

theorem keep1 {W w1 : World} (hb : Below W.heap.size W w1) {b o : Nat} {v : Value} (h : b < W.heap.size) (hv : W.cell? ⟨b, o, none⟩ = some v) : w1.cell? ⟨b, o, none⟩ = some v := (hb.cell (p := ⟨b, o, none⟩) h).trans hv
theorem keepF {W w1 : World} (hb : Below W.heap.size W w1) {b o : Nat} {v : Bool} (h : b < W.heap.size) (hv : W.frozen? ⟨b, o, none⟩ = v) : w1.frozen? ⟨b, o, none⟩ = v := (hb.frozen (p := ⟨b, o, none⟩) h).trans hv

/-- a number's words, put into a block -/
def put6 (w : World) (b n : Nat) : World := w.setCells b 0 [.int .u64 (dg n 0), .int .u64 (dg n 1), .int .u64 (dg n 2), .int .u64 (dg n 3), .int .u64 (dg n 4), .int .u64 (dg n 5)]
theorem size46 : (Tryz.prog.info? 202).map (·.size) = some 6 := by kernel_rfl
theorem run_put6 (w : World) (b n : Nat) (ht : w.there b 0 6) : (Instr.storeAt 202 (.pointer (some ⟨b, 0, none⟩)) (.agg #[.int .u64 (dg n 0), .int .u64 (dg n 1), .int .u64 (dg n 2), .int .u64 (dg n 3), .int .u64 (dg n 4), .int .u64 (dg n 5)])).run Tryz.prog w = .ok () (put6 w b n) :=
  run_storeAt_mid (P := Tryz.prog) w b 0 202 #[.int .u64 (dg n 0), .int .u64 (dg n 1), .int .u64 (dg n 2), .int .u64 (dg n 3), .int .u64 (dg n 4), .int .u64 (dg n 5)] ht size46 (by simp [Value.oneCell'])

/-- a block holds a number's words, and may be written -/
structure Box (w : World) (b n : Nat) : Prop where
  lt : b < w.heap.size
  at' : ∀ i, i < 6 → w.cell? ⟨b, i, none⟩ = some (.int .u64 (dg n i))
  fz : ∀ i, i < 6 → w.frozen? ⟨b, i, none⟩ = false

theorem Box.there {w : World} {b n : Nat} (h : Box w b n) : w.there b 0 6 := by
  intro j hj
  rw [Nat.zero_add, h.at' j hj, h.fz j hj]
  exact ⟨rfl, rfl⟩
theorem Box.below {W w1 : World} {b n : Nat} (h : Box W b n) (hb : Below W.heap.size W w1) : Box w1 b n :=
  ⟨Nat.lt_of_lt_of_le h.lt hb.size, fun i hi => keep1 hb h.lt (h.at' i hi), fun i hi => keepF hb h.lt (h.fz i hi)⟩
theorem Box.below' {W w1 : World} {b n : Nat} (hb : Below W.heap.size W w1) (lt : b < W.heap.size) (at' : ∀ i, i < 6 → W.cell? ⟨b, i, none⟩ = some (.int .u64 (dg n i))) (fz : ∀ i, i < 6 → W.frozen? ⟨b, i, none⟩ = false) : Box w1 b n := Box.below ⟨lt, at', fz⟩ hb
theorem undrew {B : Nat} {W w1 : World} (h : Below B W.drew w1) : Below B W w1 := ⟨h.os, h.tape, h.output, h.size, h.block⟩
theorem undrewN {B n : Nat} {W w1 : World} (h : Below B (W.drewN n) w1) : Below B W w1 := ⟨h.os, h.tape, h.output, h.size, h.block⟩
theorem size_setCells (b : Nat) : ∀ (vs : List Value) (o : Nat) (w : World), (w.setCells b o vs).heap.size = w.heap.size
  | [], _, _ => rfl
  | v :: r, o, w => by
    rw [World.setCells, size_setCells b r]
    simp
theorem frozen_setCells (b : Nat) : ∀ (vs : List Value) (o : Nat) (w : World) (x : Addr), (w.setCells b o vs).frozen? x = w.frozen? x
  | [], _, _, _ => rfl
  | v :: r, o, w, x => by
    rw [World.setCells, frozen_setCells b r]
    simp
theorem below_setCells (B b : Nat) (hb : B ≤ b) : ∀ (vs : List Value) (o : Nat) (a w : World), Below B a w → Below B a (w.setCells b o vs)
  | [], _, _, _, h => h
  | v :: r, o, a, w, h => by
    rw [World.setCells]
    exact below_setCells B b hb r (o + 1) a _ (h.setCell hb v)
theorem Box.put {w : World} {b n : Nat} (h : Box w b n) (m : Nat) : Box (put6 w b m) b m := by
  have hr := World.rangeAt_setCells_same w b 0 [.int .u64 (dg m 0), .int .u64 (dg m 1), .int .u64 (dg m 2), .int .u64 (dg m 3), .int .u64 (dg m 4), .int .u64 (dg m 5)] h.there
  refine ⟨by unfold put6; rw [size_setCells]; exact h.lt, fun i hi => ?_, fun i hi => by unfold put6; rw [frozen_setCells]; exact h.fz i hi⟩
  have hi' : i = 0 ∨ i = 1 ∨ i = 2 ∨ i = 3 ∨ i = 4 ∨ i = 5 := by omega
  unfold put6
  rcases hi' with rfl | rfl | rfl | rfl | rfl | rfl
  · exact hr 0 _ rfl
  · exact hr 1 _ rfl
  · exact hr 2 _ rfl
  · exact hr 3 _ rfl
  · exact hr 4 _ rfl
  · exact hr 5 _ rfl
theorem Box.other {w : World} {b n : Nat} (h : Box w b n) {c : Nat} (hc : b ≠ c) (m : Nat) : Box (put6 w c m) b n := by
  unfold put6
  refine ⟨by rw [size_setCells]; exact h.lt, fun i hi => ?_, fun i hi => by rw [frozen_setCells]; exact h.fz i hi⟩
  rw [World.cell?_setCells_out _ _ _ _ _ (fun e => absurd e hc)]
  exact h.at' i hi
theorem below_put6 {B b : Nat} {a w : World} (h : Below B a w) (hb : B ≤ b) (n : Nat) : Below B a (put6 w b n) := below_setCells B b hb _ _ _ _ h
theorem size_put6 (w : World) (b n : Nat) : (put6 w b n).heap.size = w.heap.size := size_setCells _ _ _ _
theorem Box.drewN {w : World} {b n : Nat} (h : Box w b n) (q : Nat) : Box (w.drewN q) b n := ⟨h.lt, h.at', h.fz⟩
theorem Box.alloc {w : World} {b n : Nat} (h : Box w b n) (o : Obj) : Box (w.alloc o) b n := by
  have hb : Below w.heap.size w (w.alloc o) := bal (Below.refl _ _) o
  exact h.below hb
/-- a block that holds a number's words from its making on -/
theorem Box.new (w : World) (n : Nat) : Box (w.alloc (.cells #[.int .u64 (dg n 0), .int .u64 (dg n 1), .int .u64 (dg n 2), .int .u64 (dg n 3), .int .u64 (dg n 4), .int .u64 (dg n 5)] 202)) w.heap.size n := by
  refine ⟨by simp, fun i hi => ?_, fun i hi => by simp⟩
  have hi' : i = 0 ∨ i = 1 ∨ i = 2 ∨ i = 3 ∨ i = 4 ∨ i = 5 := by omega
  rcases hi' with rfl | rfl | rfl | rfl | rfl | rfl <;> simp
theorem dg_zero (i : Nat) : dg 0 i = 0 := by simp [dg]
theorem Box.zero (w : World) : Box (w.alloc (.cells #[.int .u64 0, .int .u64 0, .int .u64 0, .int .u64 0, .int .u64 0, .int .u64 0] 202)) w.heap.size 0 := by
  have := Box.new w 0
  simpa only [dg_zero] using this

/-- the store of six words, under a name -/
def st46 (x y : Value) : Sem Unit := Instr.storeAt 202 x y
theorem st46_is (x y : Value) : Instr.storeAt 202 x y = st46 x y := rfl
theorem run_st46 (w : World) (b n : Nat) (ht : w.there b 0 6) : (st46 (.pointer (some ⟨b, 0, none⟩)) (.agg #[.int .u64 (dg n 0), .int .u64 (dg n 1), .int .u64 (dg n 2), .int .u64 (dg n 3), .int .u64 (dg n 4), .int .u64 (dg n 5)])).run Tryz.prog w = .ok () (put6 w b n) := run_put6 w b n ht
theorem run_st46_new (w : World) (b : Nat) (a0 a1 a2 a3 a4 a5 : Int) (hb : b = w.heap.size) : (st46 (.pointer (some ⟨b, 0, none⟩)) (.agg #[.int .u64 a0, .int .u64 a1, .int .u64 a2, .int .u64 a3, .int .u64 a4, .int .u64 a5])).run Tryz.prog (w.alloc (.cells #[.int .u64 0, .int .u64 0, .int .u64 0, .int .u64 0, .int .u64 0, .int .u64 0] 202)) = .ok () (w.alloc (.cells #[.int .u64 a0, .int .u64 a1, .int .u64 a2, .int .u64 a3, .int .u64 a4, .int .u64 a5] 202)) := by
  subst hb
  unfold st46
  simp [go_sem]

theorem plus_open (m n : Nat) (h : m + n < 4294967296 ^ 6) (w : World) :
    Calls Tryz.prog 144 #[.agg #[.int .u64 (dg m 0), .int .u64 (dg m 1), .int .u64 (dg m 2), .int .u64 (dg m 3), .int .u64 (dg m 4), .int .u64 (dg m 5)], wv n] w fun e w' => e = .returned (.agg #[.int .u64 (dg (m + n) 0), .int .u64 (dg (m + n) 1), .int .u64 (dg (m + n) 2), .int .u64 (dg (m + n) 3), .int .u64 (dg (m + n) 4), .int .u64 (dg (m + n) 5)]) ∧ Below w.heap.size w w' := plus_any m n h w
theorem minus_open (m n : Nat) (hm : m < 4294967296 ^ 6) (h : n ≤ m) (w : World) :
    Calls Tryz.prog 147 #[wv m, wv n] w fun e w' => e = .returned (.agg #[.int .u64 (dg (m - n) 0), .int .u64 (dg (m - n) 1), .int .u64 (dg (m - n) 2), .int .u64 (dg (m - n) 3), .int .u64 (dg (m - n) 4), .int .u64 (dg (m - n) 5)]) ∧ Below w.heap.size w w' := minus_any m n hm h w
theorem below_yes (m n : Nat) (hm : m < 4294967296 ^ 6) (hn : n < 4294967296 ^ 6) (h : m < n) (w : World) :
    Calls Tryz.prog 146 #[wv m, wv n] w fun e w' => e = .returned (.bool true) ∧ Below w.heap.size w w' := by
  have := below_any m n hm hn w
  rwa [show ltB m n = true from decide_eq_true h] at this
theorem below_no (m n : Nat) (hm : m < 4294967296 ^ 6) (hn : n < 4294967296 ^ 6) (h : ¬ m < n) (w : World) :
    Calls Tryz.prog 146 #[wv m, wv n] w fun e w' => e = .returned (.bool false) ∧ Below w.heap.size w w' := by
  have := below_any m n hm hn w
  rwa [show ltB m n = false from decide_eq_false h] at this

set_option maxHeartbeats 1000000 in
theorem is_yes (a : Int) (w : World) (h : -9223372036854775807 ≤ a) : Calls Tryz.prog 143 #[.int .i64 a] w fun e w' => e = .returned (.bool true) ∧ w' = w := by
  have hb : (a != -9223372036854775808) = true := by rw [bne_iff_ne]; omega
  clear h
  go_enter Tryz.func143, Tryz.ntmps143
  go_wp2
  go_ret
  exact ⟨rfl, rfl⟩
set_option maxHeartbeats 1000000 in
theorem is_no (w : World) : Calls Tryz.prog 143 #[.int .i64 (-9223372036854775808)] w fun e w' => e = .returned (.bool false) ∧ w' = w := by
  go_enter Tryz.func143, Tryz.ntmps143
  go_wp2
  go_ret
  exact ⟨rfl, rfl⟩
theorem amount_pos (n : Nat) (h : n < 9223372036854775808) (w : World) :
    Calls Tryz.prog 148 #[wv n, .bool false] w fun e w' => e = .returned (.tuple #[.int .i64 n, .bool true]) ∧ Below w.heap.size w w' := amount_fits n h false w
theorem amount_neg (n : Nat) (h : n < 9223372036854775808) (w : World) :
    Calls Tryz.prog 148 #[wv n, .bool true] w fun e w' => e = .returned (.tuple #[.int .i64 (-(n : Int)), .bool true]) ∧ Below w.heap.size w w' := amount_fits n h true w
theorem ret_ii {a b c d : Int} (h : a = b) (k : c = d) : Ending.returned (.tuple #[.int .i64 a, .int .i64 c]) = .returned (.tuple #[.int .i64 b, .int .i64 d]) := by rw [h, k]
end Go.Proofs.YtcafhmlpmbkhkaaGreatDoor.Mw
