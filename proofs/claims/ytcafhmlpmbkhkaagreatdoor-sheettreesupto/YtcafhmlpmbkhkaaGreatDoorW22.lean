import Derived.Test.YtcafhmlpmbkhkaaGreatDoorW20
import Derived.Test.YtcafhmlpmbkhkaaGreatDoorW21
import Derived.Deep.RegionWith
import Derived.Deep.MidRow
/- Plain numbers: the sums of a list, above and below 0. Nothing of the program. -/
namespace Go.Proofs.YtcafhmlpmbkhkaaGreatDoor.Mw

def sumZ (zs : Nat → Int) : Nat → Int
  | 0 => 0
  | k + 1 => sumZ zs k + zs k
def upN (zs : Nat → Int) : Nat → Nat
  | 0 => 0
  | k + 1 => upN zs k + (if 0 ≤ zs k then (zs k).natAbs else 0)
def dnN (zs : Nat → Int) : Nat → Nat
  | 0 => 0
  | k + 1 => dnN zs k + (if 0 ≤ zs k then 0 else (zs k).natAbs)
def anyMin (zs : Nat → Int) : Nat → Bool
  | 0 => false
  | k + 1 => anyMin zs k || zs k == -9223372036854775808
/-- the document's answer of Sum: the sum and its error -/
def sumSpec (zs : Nat → Int) (len : Nat) : Int × Int :=
  if anyMin zs len then (0, 10)
  else if -9223372036854775808 < sumZ zs len ∧ sumZ zs len < 9223372036854775808 then (sumZ zs len, 0) else (0, 11)

theorem upN_pos {zs : Nat → Int} {k : Nat} (h : 0 ≤ zs k) : upN zs (k + 1) = upN zs k + (zs k).natAbs := by simp [upN, h]
theorem upN_neg {zs : Nat → Int} {k : Nat} (h : ¬ 0 ≤ zs k) : upN zs (k + 1) = upN zs k := by simp [upN, h]
theorem dnN_pos {zs : Nat → Int} {k : Nat} (h : 0 ≤ zs k) : dnN zs (k + 1) = dnN zs k := by simp [dnN, h]
theorem dnN_neg {zs : Nat → Int} {k : Nat} (h : ¬ 0 ≤ zs k) : dnN zs (k + 1) = dnN zs k + (zs k).natAbs := by simp [dnN, h]

theorem up_dn (zs : Nat → Int) : ∀ k, (upN zs k : Int) - dnN zs k = sumZ zs k
  | 0 => rfl
  | k + 1 => by
    have := up_dn zs k
    by_cases h : 0 ≤ zs k
    · rw [upN_pos h, dnN_pos h]; simp only [sumZ]; omega
    · rw [upN_neg h, dnN_neg h]; simp only [sumZ]; omega

theorem up_dn_bd (zs : Nat → Int) (len : Nat) (hz : ∀ k, k < len → -9223372036854775808 ≤ zs k ∧ zs k ≤ 9223372036854775807) : ∀ k, k ≤ len → upN zs k ≤ k * 9223372036854775808 ∧ dnN zs k ≤ k * 9223372036854775808
  | 0, _ => by simp [upN, dnN]
  | k + 1, hk => by
    have h1 := up_dn_bd zs len hz k (by omega)
    have h2 := hz k (by omega)
    have h3 : (zs k).natAbs ≤ 9223372036854775808 := by omega
    have h4 : (k + 1) * 9223372036854775808 = k * 9223372036854775808 + 9223372036854775808 := Nat.succ_mul _ _
    rw [h4]
    clear h2 hz h4
    generalize k * 9223372036854775808 = K at *
    by_cases h : 0 ≤ zs k
    · rw [upN_pos h, dnN_pos h]
      exact ⟨Nat.add_le_add h1.1 h3, Nat.le_trans h1.2 (Nat.le_add_right _ _)⟩
    · rw [upN_neg h, dnN_neg h]
      exact ⟨Nat.le_trans h1.1 (Nat.le_add_right _ _), Nat.add_le_add h1.2 h3⟩

theorem anyMin_mono (zs : Nat → Int) (k : Nat) (h : anyMin zs k = true) : ∀ j, k ≤ j → anyMin zs j = true
  | 0, hj => by
    have : k = 0 := by omega
    subst this
    exact h
  | j + 1, hj => by
    by_cases e : k = j + 1
    · subst e; exact h
    · have := anyMin_mono zs k h j (by omega)
      simp [anyMin, this]

theorem anyMin_ext {zs ys : Nat → Int} (n : Nat) (h : ∀ i, i < n → zs i = ys i) : anyMin zs n = anyMin ys n := by
  induction n with
  | zero => rfl
  | succ n ih => simp only [anyMin, ih (fun i hi => h i (by omega)), h n (by omega)]
theorem sumZ_ext {zs ys : Nat → Int} (n : Nat) (h : ∀ i, i < n → zs i = ys i) : sumZ zs n = sumZ ys n := by
  induction n with
  | zero => rfl
  | succ n ih => simp only [sumZ, ih (fun i hi => h i (by omega)), h n (by omega)]
theorem sumSpec_ext {zs ys : Nat → Int} (n : Nat) (h : ∀ i, i < n → zs i = ys i) : sumSpec zs n = sumSpec ys n := by
  simp only [sumSpec, anyMin_ext n h, sumZ_ext n h]

theorem sumSpec_bad {zs : Nat → Int} {len k : Nat} (hk : k < len) (hb : zs k = -9223372036854775808) : sumSpec zs len = (0, 10) := by
  have h1 : anyMin zs (k + 1) = true := by simp [anyMin, hb]
  have h2 := anyMin_mono zs (k + 1) h1 len (by omega)
  simp [sumSpec, h2]
theorem sumSpec_fits {zs : Nat → Int} {len : Nat} (h : anyMin zs len = false) (h1 : -9223372036854775808 < sumZ zs len) (h2 : sumZ zs len < 9223372036854775808) : sumSpec zs len = (sumZ zs len, 0) := by
  simp [sumSpec, h, h1, h2]
theorem sumSpec_over {zs : Nat → Int} {len : Nat} (h : anyMin zs len = false) (h1 : ¬ (-9223372036854775808 < sumZ zs len ∧ sumZ zs len < 9223372036854775808)) : sumSpec zs len = (0, 11) := by
  simp [sumSpec, h, h1]
theorem anyMin_step {zs : Nat → Int} {k : Nat} (h : anyMin zs k = false) (hk : ¬ zs k = -9223372036854775808) : anyMin zs (k + 1) = false := by
  simp [anyMin, h, hk]

/-- the sum of less than 2^63 numbers, in six words -/
theorem room (zs : Nat → Int) (len : Nat) (hl : len ≤ 9223372036854775807) (hz : ∀ k, k < len → -9223372036854775808 ≤ zs k ∧ zs k ≤ 9223372036854775807) (k : Nat) (hk : k ≤ len) : upN zs k < 340282366920938463463374607431768211456 ∧ dnN zs k < 340282366920938463463374607431768211456 := by
  have h := up_dn_bd zs len hz k hk
  have : k * 9223372036854775808 ≤ 9223372036854775807 * 9223372036854775808 := Nat.mul_le_mul_right _ (by omega)
  omega
end Go.Proofs.YtcafhmlpmbkhkaaGreatDoor.Mw
namespace Go.Proofs.YtcafhmlpmbkhkaaGreatDoor.Mw
open Go.ChangeShapes Go.WideShapes Go.ChangeAt Go.RowKit
set_option linter.unusedVariables false

theorem keep1 {W w1 : World} (hb : Below W.heap.size W w1) {b o : Nat} {v : Value} (h : b < W.heap.size) (hv : W.cell? ⟨b, o, none⟩ = some v) : w1.cell? ⟨b, o, none⟩ = some v := (hb.cell (p := ⟨b, o, none⟩) h).trans hv
theorem keepF {W w1 : World} (hb : Below W.heap.size W w1) {b o : Nat} {v : Bool} (h : b < W.heap.size) (hv : W.frozen? ⟨b, o, none⟩ = v) : w1.frozen? ⟨b, o, none⟩ = v := (hb.frozen (p := ⟨b, o, none⟩) h).trans hv

/-- a number's words, put into a block -/
def put6 (w : World) (b n : Nat) : World := w.setCells b 0 [.int .u64 (dg n 0), .int .u64 (dg n 1), .int .u64 (dg n 2), .int .u64 (dg n 3), .int .u64 (dg n 4), .int .u64 (dg n 5)]
theorem size46 : (Tryz.prog.info? 202).map (·.size) = some 6 := by kernel_rfl
theorem run_put6 (w : World) (b n : Nat) (ht : w.there b 0 6) : (Instr.storeAt 202 (.pointer (some ⟨b, 0, none⟩)) (.agg #[.int .u64 (dg n 0), .int .u64 (dg n 1), .int .u64 (dg n 2), .int .u64 (dg n 3), .int .u64 (dg n 4), .int .u64 (dg n 5)])).run Tryz.prog w = .ok () (put6 w b n) :=
  run_storeAt_mid (P := Tryz.prog) w b 0 202 #[.int .u64 (dg n 0), .int .u64 (dg n 1), .int .u64 (dg n 2), .int .u64 (dg n 3), .int .u64 (dg n 4), .int .u64 (dg n 5)] ht size46 (by simp [Value.oneCell'])

/-- a block holds a number's words, and may be written -/
structure Box (w : World) (b n : Nat) : Prop where
  lt : b < w.heap.size
  at' : ∀ i, i < 6 → w.cell? ⟨b, i, none⟩ = some (.int .u64 (dg n i))
  fz : ∀ i, i < 6 → w.frozen? ⟨b, i, none⟩ = false

theorem Box.there {w : World} {b n : Nat} (h : Box w b n) : w.there b 0 6 := by
  intro j hj
  rw [Nat.zero_add, h.at' j hj, h.fz j hj]
  exact ⟨rfl, rfl⟩
theorem Box.below {W w1 : World} {b n : Nat} (h : Box W b n) (hb : Below W.heap.size W w1) : Box w1 b n :=
  ⟨Nat.lt_of_lt_of_le h.lt hb.size, fun i hi => keep1 hb h.lt (h.at' i hi), fun i hi => keepF hb h.lt (h.fz i hi)⟩
theorem Box.below' {W w1 : World} {b n : Nat} (hb : Below W.heap.size W w1) (lt : b < W.heap.size) (at' : ∀ i, i < 6 → W.cell? ⟨b, i, none⟩ = some (.int .u64 (dg n i))) (fz : ∀ i, i < 6 → W.frozen? ⟨b, i, none⟩ = false) : Box w1 b n := Box.below ⟨lt, at', fz⟩ hb
theorem undrew {B : Nat} {W w1 : World} (h : Below B W.drew w1) : Below B W w1 := ⟨h.os, h.tape, h.output, h.size, h.block⟩
theorem undrewN {B n : Nat} {W w1 : World} (h : Below B (W.drewN n) w1) : Below B W w1 := ⟨h.os, h.tape, h.output, h.size, h.block⟩
theorem size_setCells (b : Nat) : ∀ (vs : List Value) (o : Nat) (w : World), (w.setCells b o vs).heap.size = w.heap.size
  | [], _, _ => rfl
  | v :: r, o, w => by
    rw [World.setCells, size_setCells b r]
    simp
theorem frozen_setCells (b : Nat) : ∀ (vs : List Value) (o : Nat) (w : World) (x : Addr), (w.setCells b o vs).frozen? x = w.frozen? x
  | [], _, _, _ => rfl
  | v :: r, o, w, x => by
    rw [World.setCells, frozen_setCells b r]
    simp
theorem below_setCells (B b : Nat) (hb : B ≤ b) : ∀ (vs : List Value) (o : Nat) (a w : World), Below B a w → Below B a (w.setCells b o vs)
  | [], _, _, _, h => h
  | v :: r, o, a, w, h => by
    rw [World.setCells]
    exact below_setCells B b hb r (o + 1) a _ (h.setCell hb v)
theorem Box.put {w : World} {b n : Nat} (h : Box w b n) (m : Nat) : Box (put6 w b m) b m := by
  have hr := World.rangeAt_setCells_same w b 0 [.int .u64 (dg m 0), .int .u64 (dg m 1), .int .u64 (dg m 2), .int .u64 (dg m 3), .int .u64 (dg m 4), .int .u64 (dg m 5)] h.there
  refine ⟨by unfold put6; rw [size_setCells]; exact h.lt, fun i hi => ?_, fun i hi => by unfold put6; rw [frozen_setCells]; exact h.fz i hi⟩
  have hi' : i = 0 ∨ i = 1 ∨ i = 2 ∨ i = 3 ∨ i = 4 ∨ i = 5 := by omega
  unfold put6
  rcases hi' with rfl | rfl | rfl | rfl | rfl | rfl
  · exact hr 0 _ rfl
  · exact hr 1 _ rfl
  · exact hr 2 _ rfl
  · exact hr 3 _ rfl
  · exact hr 4 _ rfl
  · exact hr 5 _ rfl
theorem Box.other {w : World} {b n : Nat} (h : Box w b n) {c : Nat} (hc : b ≠ c) (m : Nat) : Box (put6 w c m) b n := by
  unfold put6
  refine ⟨by rw [size_setCells]; exact h.lt, fun i hi => ?_, fun i hi => by rw [frozen_setCells]; exact h.fz i hi⟩
  rw [World.cell?_setCells_out _ _ _ _ _ (fun e => absurd e hc)]
  exact h.at' i hi
theorem below_put6 {B b : Nat} {a w : World} (h : Below B a w) (hb : B ≤ b) (n : Nat) : Below B a (put6 w b n) := below_setCells B b hb _ _ _ _ h
theorem size_put6 (w : World) (b n : Nat) : (put6 w b n).heap.size = w.heap.size := size_setCells _ _ _ _
theorem Box.drewN {w : World} {b n : Nat} (h : Box w b n) (q : Nat) : Box (w.drewN q) b n := ⟨h.lt, h.at', h.fz⟩
theorem Box.alloc {w : World} {b n : Nat} (h : Box w b n) (o : Obj) : Box (w.alloc o) b n := by
  have hb : Below w.heap.size w (w.alloc o) := bal (Below.refl _ _) o
  exact h.below hb
/-- a block that holds a number's words from its making on -/
theorem Box.new (w : World) (n : Nat) : Box (w.alloc (.cells #[.int .u64 (dg n 0), .int .u64 (dg n 1), .int .u64 (dg n 2), .int .u64 (dg n 3), .int .u64 (dg n 4), .int .u64 (dg n 5)] 202)) w.heap.size n := by
  refine ⟨by simp, fun i hi => ?_, fun i hi => by simp⟩
  have hi' : i = 0 ∨ i = 1 ∨ i = 2 ∨ i = 3 ∨ i = 4 ∨ i = 5 := by omega
  rcases hi' with rfl | rfl | rfl | rfl | rfl | rfl <;> simp
theorem dg_zero (i : Nat) : dg 0 i = 0 := by simp [dg]
theorem Box.zero (w : World) : Box (w.alloc (.cells #[.int .u64 0, .int .u64 0, .int .u64 0, .int .u64 0, .int .u64 0, .int .u64 0] 202)) w.heap.size 0 := by
  have := Box.new w 0
  simpa only [dg_zero] using this

/-- the store of six words, under a name -/
def st46 (x y : Value) : Sem Unit := Instr.storeAt 202 x y
theorem st46_is (x y : Value) : Instr.storeAt 202 x y = st46 x y := rfl
theorem run_st46 (w : World) (b n : Nat) (ht : w.there b 0 6) : (st46 (.pointer (some ⟨b, 0, none⟩)) (.agg #[.int .u64 (dg n 0), .int .u64 (dg n 1), .int .u64 (dg n 2), .int .u64 (dg n 3), .int .u64 (dg n 4), .int .u64 (dg n 5)])).run Tryz.prog w = .ok () (put6 w b n) := run_put6 w b n ht
theorem run_st46_new (w : World) (b : Nat) (a0 a1 a2 a3 a4 a5 : Int) (hb : b = w.heap.size) : (st46 (.pointer (some ⟨b, 0, none⟩)) (.agg #[.int .u64 a0, .int .u64 a1, .int .u64 a2, .int .u64 a3, .int .u64 a4, .int .u64 a5])).run Tryz.prog (w.alloc (.cells #[.int .u64 0, .int .u64 0, .int .u64 0, .int .u64 0, .int .u64 0, .int .u64 0] 202)) = .ok () (w.alloc (.cells #[.int .u64 a0, .int .u64 a1, .int .u64 a2, .int .u64 a3, .int .u64 a4, .int .u64 a5] 202)) := by
  subst hb
  unfold st46
  simp [go_sem]

theorem plus_open (m n : Nat) (h : m + n < 4294967296 ^ 6) (w : World) :
    Calls Tryz.prog 144 #[.agg #[.int .u64 (dg m 0), .int .u64 (dg m 1), .int .u64 (dg m 2), .int .u64 (dg m 3), .int .u64 (dg m 4), .int .u64 (dg m 5)], wv n] w fun e w' => e = .returned (.agg #[.int .u64 (dg (m + n) 0), .int .u64 (dg (m + n) 1), .int .u64 (dg (m + n) 2), .int .u64 (dg (m + n) 3), .int .u64 (dg (m + n) 4), .int .u64 (dg (m + n) 5)]) ∧ Below w.heap.size w w' := plus_any m n h w
theorem minus_open (m n : Nat) (hm : m < 4294967296 ^ 6) (h : n ≤ m) (w : World) :
    Calls Tryz.prog 147 #[wv m, wv n] w fun e w' => e = .returned (.agg #[.int .u64 (dg (m - n) 0), .int .u64 (dg (m - n) 1), .int .u64 (dg (m - n) 2), .int .u64 (dg (m - n) 3), .int .u64 (dg (m - n) 4), .int .u64 (dg (m - n) 5)]) ∧ Below w.heap.size w w' := minus_any m n hm h w
theorem below_yes (m n : Nat) (hm : m < 4294967296 ^ 6) (hn : n < 4294967296 ^ 6) (h : m < n) (w : World) :
    Calls Tryz.prog 146 #[wv m, wv n] w fun e w' => e = .returned (.bool true) ∧ Below w.heap.size w w' := by
  have := below_any m n hm hn w
  rwa [show ltB m n = true from decide_eq_true h] at this
theorem below_no (m n : Nat) (hm : m < 4294967296 ^ 6) (hn : n < 4294967296 ^ 6) (h : ¬ m < n) (w : World) :
    Calls Tryz.prog 146 #[wv m, wv n] w fun e w' => e = .returned (.bool false) ∧ Below w.heap.size w w' := by
  have := below_any m n hm hn w
  rwa [show ltB m n = false from decide_eq_false h] at this

set_option maxHeartbeats 1000000 in
theorem is_yes (a : Int) (w : World) (h : -9223372036854775807 ≤ a) : Calls Tryz.prog 143 #[.int .i64 a] w fun e w' => e = .returned (.bool true) ∧ w' = w := by
  have hb : (a != -9223372036854775808) = true := by rw [bne_iff_ne]; omega
  clear h
  go_enter Tryz.func143, Tryz.ntmps143
  go_wp2
  go_ret
  exact ⟨rfl, rfl⟩
set_option maxHeartbeats 1000000 in
theorem is_no (w : World) : Calls Tryz.prog 143 #[.int .i64 (-9223372036854775808)] w fun e w' => e = .returned (.bool false) ∧ w' = w := by
  go_enter Tryz.func143, Tryz.ntmps143
  go_wp2
  go_ret
  exact ⟨rfl, rfl⟩
theorem amount_pos (n : Nat) (h : n < 9223372036854775808) (w : World) :
    Calls Tryz.prog 148 #[wv n, .bool false] w fun e w' => e = .returned (.tuple #[.int .i64 n, .bool true]) ∧ Below w.heap.size w w' := amount_fits n h false w
theorem amount_neg (n : Nat) (h : n < 9223372036854775808) (w : World) :
    Calls Tryz.prog 148 #[wv n, .bool true] w fun e w' => e = .returned (.tuple #[.int .i64 (-(n : Int)), .bool true]) ∧ Below w.heap.size w w' := amount_fits n h true w
theorem ret_ii {a b c d : Int} (h : a = b) (k : c = d) : Ending.returned (.tuple #[.int .i64 a, .int .i64 c]) = .returned (.tuple #[.int .i64 b, .int .i64 d]) := by rw [h, k]
end Go.Proofs.YtcafhmlpmbkhkaaGreatDoor.Mw
