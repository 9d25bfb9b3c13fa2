import Derived.Test.YtddpladmkmpoaaaStbM
import Derived.Test.YtddpladmkmpoaaaWideC
import Derived.WalkKit
import Derived.ProofKit
import Derived.OpenShut
import Derived.WalkLawsBesides
import Derived.Deep.QuietTactic
import Derived.BigQuiet
import Derived.BigCall
import Derived.BigGuard
import Derived.Shelf.SlSortCmp.KitK
import Derived.Sort.WalkB2
import Derived.Sort.WalkB12
import Derived.Deep.LoopGhost
import Derived.Deep.MidRow
import Derived.Shelf.SlicesQ.Load
import Derived.Shelf.SlicesQ.Reverse
namespace Go.Proofs.Ytddpladmkmpoaaa
open Go.ChangeShapes Go.WideShapes Go.ChangeAt Go.RowKit Go.Sort Go.Lib Go.Shelf
set_option linter.unusedVariables false
def enc3 (x : Sh) : List Value := [.int .i64 x.p, .int .i64 x.q, .int .u64 (x.r : Int)]
theorem enc3_len (x : Sh) : (enc3 x).length = 3 := rfl
theorem enc3_one (x : Sh) : ∀ v ∈ enc3 x, v.oneCell' = true := by
  intro v hv
  simp [enc3] at hv
  rcases hv with rfl | rfl | rfl <;> rfl
def cmpN (a b : Nat) : Int := if a < b then -1 else if b < a then 1 else 0
def cfS (x y : Sh) : Int := cmpN y.r x.r
theorem cfS_lt (x y : Sh) : cfS x y < 0 ↔ y.r < x.r := by
  unfold cfS cmpN
  split
  · omega
  · split <;> omega
set_option maxHeartbeats 1000000 in
theorem nanS (r : Nat) (w : World) : Calls Try.prog 58 #[.int .u64 (r : Int)] w fun e w' => e = .returned (.bool false) ∧ w' = w := by
  go_enter Try.func58, Try.ntmps58
  go_wp2
  go_ret
  exact ⟨by simp, rfl⟩
theorem retI {a b : Int} (h : a = b) : Ending.returned (.int .i64 a) = .returned (.int .i64 b) := by rw [h]
set_option maxHeartbeats 1000000 in
theorem cmpS (a b : Nat) (w : World) : Calls Try.prog 48 #[.int .u64 (a : Int), .int .u64 (b : Int)] w fun e w' => e = .returned (.int .i64 (cmpN a b)) ∧ w' = w := by
  by_cases h1 : a < b
  · have hI : (a : Int) < (b : Int) := by omega
    go_enter Try.func48, Try.ntmps48
    go_wp2_with (first | (go_at_call 58; refine (nanS _ _).mono ?_; rintro e w' ⟨rfl, hw⟩; subst hw))
    go_ret
    exact ⟨retI (by simp [cmpN, h1]), rfl⟩
  · have hI : ¬ (a : Int) < (b : Int) := by omega
    by_cases h2 : b < a
    · have hJ : (b : Int) < (a : Int) := by omega
      go_enter Try.func48, Try.ntmps48
      go_wp2_with (first | (go_at_call 58; refine (nanS _ _).mono ?_; rintro e w' ⟨rfl, hw⟩; subst hw))
      go_ret
      exact ⟨retI (by simp [cmpN, h1, h2]), rfl⟩
    · have hJ : ¬ (b : Int) < (a : Int) := by omega
      go_enter Try.func48, Try.ntmps48
      go_wp2_with (first | (go_at_call 58; refine (nanS _ _).mono ?_; rintro e w' ⟨rfl, hw⟩; subst hw))
      go_ret
      exact ⟨retI (by simp [cmpN, h1, h2]), rfl⟩
set_option maxHeartbeats 1000000 in
theorem cloS (x y : Sh) (w : World) : Calls Try.prog 47 #[.agg (enc3 x).toArray, .agg (enc3 y).toArray] w fun e w' => e = .returned (.int .i64 (cfS x y)) ∧ ∃ q os', w' = grow (w.drewN q) os' := by
  obtain ⟨p1, q1, r1⟩ := x
  obtain ⟨p2, q2, r2⟩ := y
  unfold enc3
  go_enter Try.func47, Try.ntmps47
  go_wp2_with (first | (go_at_call 48; refine (cmpS _ _ _).mono ?_; rintro e w' ⟨rfl, hw⟩; subst hw))
  go_ret
  refine ⟨rfl, 0, #[.cells #[.int .i64 p1, .int .i64 q1, .int .u64 r1] 71, .cells #[.int .i64 p2, .int .i64 q2, .int .u64 r2] 71], ?_⟩
  rw [alloc_eq_grow, alloc_eq_grow, grow_grow, World.drewN_zero]
  rfl
theorem cmpLays (blk off size : Nat) (w : World) : CmpLays Try.prog 47 #[] enc3 3 cfS blk off size w := fun m os dk _ x y => by
  rw [Array.append_empty]
  exact cloS x y _
theorem rowK {w0 : World} {blk : Nat} {d0 : Array Sh} (h : HoldsK enc3 3 w0 blk 0 d0) (hb : blk < w0.heap.size) : RowK enc3 3 w0 blk 0 d0 := ⟨enc3_len, enc3_one, h, hb⟩
/-- a share's load and its store, under names -/
def ld50 (x : Value) : Sem Value := Instr.loadAt 71 x
theorem ld50_is (x : Value) : Instr.loadAt 71 x = ld50 x := rfl
def st50 (x y : Value) : Sem Unit := Instr.storeAt 71 x y
theorem st50_is (x y : Value) : Instr.storeAt 71 x y = st50 x y := rfl
theorem size50 : (Try.prog.info? 71).map (·.size) = some 3 := by kernel_rfl
theorem row_cells {W : World} {blk : Nat} {d : Array Sh} (h : HoldsK enc3 3 W blk 0 d) {x : Nat} (hx : x < d.size) : W.rangeAt blk (x * 3) (enc3 d[x]!) := by
  intro j v hv
  have := HoldsK.cells h enc3_len hx j v hv
  rw [Addr.add_mid, Nat.zero_add] at this
  exact this
theorem run_ld50 {W : World} {blk : Nat} {d : Array Sh} (h : HoldsK enc3 3 W blk 0 d) {x : Nat} (hx : x < d.size) : (ld50 (.pointer (some ⟨blk, x * 3, none⟩))).run Try.prog W = .ok (.agg (enc3 d[x]!).toArray) W :=
  run_loadAt_mid (P := Try.prog) W blk (x * 3) 71 (enc3 d[x]!) _ (row_cells h hx) Try.underlying71 rfl size50
theorem holds_there {W : World} {blk : Nat} {F : Array Value} (h : Holds id W blk 0 F) {s n : Nat} (hs : s + n ≤ F.size) : W.there blk s n := by
  intro j hj
  have := h (s + j) (by omega)
  rw [Nat.zero_add] at this
  rw [this.1, this.2]
  exact ⟨rfl, rfl⟩
theorem run_st50 {W : World} {blk : Nat} {F : Array Value} (h : Holds id W blk 0 F) {s : Nat} (hs : s + 3 ≤ F.size) (y : Sh) : (st50 (.pointer (some ⟨blk, s, none⟩)) (.agg (enc3 y).toArray)).run Try.prog W = .ok () (W.setCells blk s (enc3 y)) :=
  run_storeAt_mid (P := Try.prog) W blk s 71 (enc3 y).toArray (holds_there h hs) size50 (by simp [enc3, Value.oneCell'])
theorem row_bnd {dk : Array Sh} {x : Nat} (hx : x < dk.size) : x * 3 + 3 ≤ (flatK enc3 3 dk).size := by rw [size_flatK]; omega
section
variable {w0 W : World} {blk : Nat} {d0 dk : Array Sh}
theorem sw_ld (h : SWK enc3 3 w0 blk 0 dk W) (R : RowK enc3 3 w0 blk 0 d0) (hs : dk.size = d0.size) {x : Nat} (hx : x < dk.size) : (ld50 (.pointer (some ⟨blk, x * 3, none⟩))).run Try.prog W = .ok (.agg (enc3 dk[x]!).toArray) W := run_ld50 (h.holds R.hblk R.hH hs) hx
theorem sw_st1 (h : SWK enc3 3 w0 blk 0 dk W) (R : RowK enc3 3 w0 blk 0 d0) (hs : dk.size = d0.size) {x : Nat} (hx : x < dk.size) (y : Sh) : (st50 (.pointer (some ⟨blk, x * 3, none⟩)) (.agg (enc3 y).toArray)).run Try.prog W = .ok () (W.setCells blk (x * 3) (enc3 y)) := run_st50 (h.holds R.hblk R.hH hs) (row_bnd hx) y
theorem sw_st2 (h : SWK enc3 3 w0 blk 0 dk W) (R : RowK enc3 3 w0 blk 0 d0) (hs : dk.size = d0.size) {x z : Nat} (hx : x < dk.size) (hz : z < dk.size) (y u : Sh) : (st50 (.pointer (some ⟨blk, z * 3, none⟩)) (.agg (enc3 u).toArray)).run Try.prog (W.setCells blk (x * 3) (enc3 y)) = .ok () ((W.setCells blk (x * 3) (enc3 y)).setCells blk (z * 3) (enc3 u)) := by
  have hh := holds_setCells_c (h.holds R.hblk R.hH hs) (x * 3) (enc3 y) (by have := row_bnd hx; exact this)
  rw [Nat.zero_add] at hh
  exact run_st50 hh (by rw [size_setMany]; exact row_bnd hz) u
theorem sw_swap (h : SWK enc3 3 w0 blk 0 dk W) (R : RowK enc3 3 w0 blk 0 d0) {x z : Nat} (hx : x < dk.size) (hz : z < dk.size) : SWK enc3 3 w0 blk 0 (swp dk x z) ((W.drew.setCells blk (x * 3) (enc3 dk[z]!)).setCells blk (z * 3) (enc3 dk[x]!)) := by
  have := h.swapped R x z hx hz
  rw [Nat.zero_add, Nat.zero_add] at this
  exact this
end
attribute [local go_sem ↓] ld50_is st50_is
set_option maxHeartbeats 4000000 in
set_option maxRecDepth 1000000 in
/-- slices.swapRangeCmpFunc -/
theorem swapRange_any (blk cap a b n : Nat) (d0 d : Array Sh) (w0 w : World) (R : RowK enc3 3 w0 blk 0 d0) (hs : d0.size = d.size) (S : SWK enc3 3 w0 blk 0 d w) (hab : a + n ≤ b) (hb : b + n ≤ d.size) (hsz : d.size ≤ 1000) :
    Calls Try.prog 64 #[.slice (some ⟨blk, 0, none⟩) d.size cap, .int .i64 a, .int .i64 b, .int .i64 n, .func (.func 47) #[] #[]] w fun e w' => e = .returned (.tuple #[]) ∧ SWK enc3 3 w0 blk 0 (swapR d a b n) w' := by
  have S0 : Aside (SWK enc3 3 w0 blk 0 d w) := S
  clear S
  go_enter Try.func64, Try.ntmps64
  go_wp2
  go_loopg [10] n (fun kx s wr => ∃ (i : Nat), s = .int .i64 i ∧ i ≤ n ∧ n - i ≤ kx ∧ Aside (SWK enc3 3 w0 blk 0 (swapR d a b i) wr))
  case atStart => exact ⟨0, rfl, by omega, by omega, S0⟩
  case round =>
    clear S0
    obtain ⟨i, rfl, hin, hkx, S1⟩ := hrel
    by_cases hlt : i < n
    · have hI : (i : Int) < (n : Int) := by omega
      have hsi := swapR_size d a b i
      obtain ⟨x, hx⟩ : ∃ x : Nat, (a : Int) + (i : Int) = (x : Int) := ⟨a + i, by omega⟩
      obtain ⟨y, hy⟩ : ∃ y : Nat, (b : Int) + (i : Int) = (y : Int) := ⟨b + i, by omega⟩
      have xs : x < (swapR d a b i).size := by omega
      have ys : y < (swapR d a b i).size := by omega
      have px : (0 : Int) ≤ (x : Int) := by omega
      have py : (0 : Int) ≤ (y : Int) := by omega
      have bx : (x : Int) < (d.size : Int) := by omega
      have by' : (y : Int) < (d.size : Int) := by omega
      have rx : IntKind.i64.wrap (x : Int) = (x : Int) := by rw [IntKind.wrap_i64]; omega
      have ry : IntKind.i64.wrap (y : Int) = (y : Int) := by rw [IntKind.wrap_i64]; omega
      have S2 : Aside (SWK enc3 3 w0 blk 0 (swp (swapR d a b i) x y) ((wr.drew.setCells blk (x * 3) (enc3 (swapR d a b i)[y]!)).setCells blk (y * 3) (enc3 (swapR d a b i)[x]!))) := sw_swap S1.out R xs ys
      have l1 := sw_ld S1.out.drew R (by omega) xs
      have l2 := sw_ld S1.out.drew R (by omega) ys
      have s1 := sw_st1 S1.out.drew R (by omega) xs (swapR d a b i)[y]!
      have s2 := sw_st2 S1.out.drew R (by omega) xs ys (swapR d a b i)[y]! (swapR d a b i)[x]!
      have ex : x = a + i := by omega
      have ey : y = b + i := by omega
      have EX : Aside (x = a + i) := ex
      have EY : Aside (y = b + i) := ey
      generalize enc3 (swapR d a b i)[x]! = cX at S2 l1 l2 s1 s2
      generalize enc3 (swapR d a b i)[y]! = cY at S2 l1 l2 s1 s2
      clear S1 ex ey xs ys hsi
      go_wp2_with fail
      have mixed : Try.prog.follows .mixedOrders = true := by kernel_rfl
      go_big_region_o
      clear l1 l2 s1 s2
      generalize (wr.drew.setCells blk (x * 3) cY).setCells blk (y * 3) cX = w2 at S2 ⊢
      go_wp2
      go_roundg (n - (i + 1))
      case measure => omega
      case rel =>
        rw [EX.out, EY.out] at S2
        exact ⟨i + 1, by go_num, by omega, Nat.le_refl _, S2⟩
    · have hin' : i = n := by omega
      subst hin'
      have hI : ¬ (i : Int) < (i : Int) := by omega
      go_wp2
      go_end0
      exact ⟨rfl, S1.out⟩
set_option maxHeartbeats 4000000 in
set_option maxRecDepth 1000000 in
/-- slices.rotateCmpFunc -/
theorem rotate_any (blk cap a m b : Nat) (d0 d : Array Sh) (w0 w : World) (R : RowK enc3 3 w0 blk 0 d0) (hs : d0.size = d.size) (S : SWK enc3 3 w0 blk 0 d w) (ham : a < m) (hmb : m < b) (hb : b ≤ d.size) (hsz : d.size ≤ 1000) :
    Calls Try.prog 63 #[.slice (some ⟨blk, 0, none⟩) d.size cap, .int .i64 a, .int .i64 m, .int .i64 b, .func (.func 47) #[] #[]] w fun e w' => e = .returned (.tuple #[]) ∧ ∃ c : Array Sh, SWK enc3 3 w0 blk 0 c w' ∧ PermIn a b d c ∧ Rot d c a m b := by
  have S0 : Aside (SWK enc3 3 w0 blk 0 d w) := S
  clear S
  have A1 : Aside (∀ (x y k : Nat) (c : Array Sh) (W : World), c.size = d.size → SWK enc3 3 w0 blk 0 c W → x + k ≤ y → y + k ≤ d.size → Calls Try.prog 64 #[.slice (some ⟨blk, 0, none⟩) d.size cap, .int .i64 x, .int .i64 y, .int .i64 k, .func (.func 47) #[] #[]] W fun e w' => e = .returned (.tuple #[]) ∧ SWK enc3 3 w0 blk 0 (swapR c x y k) w') := by
    intro x y k c W hc hS h1 h2
    rw [← hc] at h2 hsz ⊢
    exact swapRange_any blk cap x y k d0 c w0 W R (by omega) hS h1 h2 hsz
  go_enter Try.func63, Try.ntmps63
  go_wp2
  go_loopg [10, 11] (b - a) (fun kx si sj wr => ∃ (i j : Nat) (c : Array Sh), si = .int .i64 i ∧ sj = .int .i64 j ∧ 0 < i ∧ 0 < j ∧ a + i ≤ m ∧ m + j ≤ b ∧ i + j ≤ kx ∧ c.size = d.size ∧ Aside (SWK enc3 3 w0 blk 0 c wr) ∧ Aside (PermIn a b d c) ∧ Aside (∀ x, rotF c (m - i) m (m + j) x = rotF d a m b x))
  case atStart =>
    refine ⟨m - a, b - m, d, by go_num, by go_num, by omega, by omega, by omega, by omega, by omega, rfl, S0, permIn_refl _ _ _, ?_⟩
    intro x
    rw [show m - (m - a) = a by omega, show m + (b - m) = b by omega]
  case round =>
    clear S0
    obtain ⟨i, j, c, rfl, rfl, hi0, hj0, him, hjb, hkx, hcs, S1, P1, F1⟩ := hrel
    obtain ⟨x, hx⟩ : ∃ x : Nat, (m : Int) - (i : Int) = (x : Int) := ⟨m - i, by omega⟩
    have EX : Aside (x = m - i) := (by omega : x = m - i)
    by_cases heq : i = j
    · subst heq
      have hne : ((i : Int) != (i : Int)) = false := by simp
      have C1 := hide (A1.out x m i c wr hcs S1.out (by have := EX.out; omega) (by omega))
      go_wp2_with fail
      refine (unhide C1).mono ?_
      rintro e w2 ⟨rfl, h2⟩
      go_wp2
      go_end0
      refine ⟨rfl, swapR c x m i, h2, ?_, ?_⟩
      · exact permIn_trans _ _ _ _ _ P1.out (swapR_perm c x m i a b (by have := EX.out; omega) (by have := EX.out; omega) (by omega) (by omega) i (Nat.le_refl _))
      · refine rot_of (by omega) (by omega) (fun y => ?_)
        rw [EX.out, rot_end (by omega) (by omega)]
        exact F1.out y
    · by_cases hgt : j < i
      · have hne : ((i : Int) != (j : Int)) = true := by rw [bne_iff_ne]; omega
        have hI : (j : Int) < (i : Int) := by omega
        have C1 := hide (A1.out x m j c wr hcs S1.out (by have := EX.out; omega) (by omega))
        clear heq
        go_wp2_with fail
        refine (unhide C1).mono ?_
        rintro e w2 ⟨rfl, h2⟩
        have S2 : Aside _ := h2
        clear h2
        go_wp2
        go_roundg (i - j + j)
        case measure => omega
        case rel =>
          refine ⟨i - j, j, swapR c x m j, by go_num, rfl, by omega, by omega, by omega, by omega, Nat.le_refl _, by rw [swapR_size]; exact hcs, S2, ?_, ?_⟩
          · exact permIn_trans _ _ _ _ _ P1.out (swapR_perm c x m j a b (by have := EX.out; omega) (by have := EX.out; omega) (by omega) (by omega) j (Nat.le_refl _))
          · intro y
            rw [EX.out, rot_more (by omega) (by omega) hgt hj0]
            exact F1.out y
      · have hne : ((i : Int) != (j : Int)) = true := by rw [bne_iff_ne]; omega
        have hI : ¬ (j : Int) < (i : Int) := by omega
        have hlt : i < j := by omega
        obtain ⟨z, hz⟩ : ∃ z : Nat, (m : Int) + (j : Int) - (i : Int) = (z : Int) := ⟨m + j - i, by omega⟩
        have EZ : Aside (z = m + j - i) := (by omega : z = m + j - i)
        have C1 := hide (A1.out x z i c wr hcs S1.out (by have := EX.out; have := EZ.out; omega) (by have := EZ.out; omega))
        clear heq hgt
        go_wp2_with fail
        refine (unhide C1).mono ?_
        rintro e w2 ⟨rfl, h2⟩
        have S2 : Aside _ := h2
        clear h2
        go_wp2
        go_roundg (i + (j - i))
        case measure => omega
        case rel =>
          refine ⟨i, j - i, swapR c x z i, rfl, by go_num, by omega, by omega, by omega, by omega, Nat.le_refl _, by rw [swapR_size]; exact hcs, S2, ?_, ?_⟩
          · exact permIn_trans _ _ _ _ _ P1.out (swapR_perm c x z i a b (by have := EX.out; omega) (by have := EX.out; have := EZ.out; omega) (by have := EZ.out; omega) (by omega) i (Nat.le_refl _))
          · intro y
            rw [EX.out, EZ.out, rot_less (by omega) (by omega) hlt hi0]
            exact F1.out y
end Go.Proofs.Ytddpladmkmpoaaa
