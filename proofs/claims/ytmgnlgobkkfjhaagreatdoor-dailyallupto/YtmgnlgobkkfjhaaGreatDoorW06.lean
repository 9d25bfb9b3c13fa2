import Derived.Test.YtmgnlgobkkfjhaaGreatDoorW05
import Derived.Deep.RegionWith
import Derived.Deep.MidRow
import Derived.Test.YtmgnlgobkkfjhaaGreatDoorW03
import Derived.Test.YtmgnlgobkkfjhaaGreatDoorW01
import Derived.Test.YtmgnlgobkkfjhaaGreatDoorW02
namespace Go.Proofs.YtmgnlgobkkfjhaaGreatDoor.Mw
open Go.ChangeShapes Go.WideShapes Go.ChangeAt Go.RowKit
set_option linter.unusedVariables false

theorem keep1 {W w1 : World} (hb : Below W.heap.size W w1) {b o : Nat} {v : Value} (h : b < W.heap.size) (hv : W.cell? ⟨b, o, none⟩ = some v) : w1.cell? ⟨b, o, none⟩ = some v := (hb.cell (p := ⟨b, o, none⟩) h).trans hv
theorem keepF {W w1 : World} (hb : Below W.heap.size W w1) {b o : Nat} {v : Bool} (h : b < W.heap.size) (hv : W.frozen? ⟨b, o, none⟩ = v) : w1.frozen? ⟨b, o, none⟩ = v := (hb.frozen (p := ⟨b, o, none⟩) h).trans hv

/-- a number's words, put into a block -/
def put6 (w : World) (b n : Nat) : World := w.setCells b 0 [.int .u64 (dg n 0), .int .u64 (dg n 1), .int .u64 (dg n 2), .int .u64 (dg n 3), .int .u64 (dg n 4), .int .u64 (dg n 5)]
theorem size46 : (Tryz.prog.info? 267).map (·.size) = some 6 := by kernel_rfl
theorem run_put6 (w : World) (b n : Nat) (ht : w.there b 0 6) : (Instr.storeAt 267 (.pointer (some ⟨b, 0, none⟩)) (.agg #[.int .u64 (dg n 0), .int .u64 (dg n 1), .int .u64 (dg n 2), .int .u64 (dg n 3), .int .u64 (dg n 4), .int .u64 (dg n 5)])).run Tryz.prog w = .ok () (put6 w b n) :=
  run_storeAt_mid (P := Tryz.prog) w b 0 267 #[.int .u64 (dg n 0), .int .u64 (dg n 1), .int .u64 (dg n 2), .int .u64 (dg n 3), .int .u64 (dg n 4), .int .u64 (dg n 5)] ht size46 (by simp [Value.oneCell'])

/-- a block holds a number's words, and may be written -/
structure Box (w : World) (b n : Nat) : Prop where
  lt : b < w.heap.size
  at' : ∀ i, i < 6 → w.cell? ⟨b, i, none⟩ = some (.int .u64 (dg n i))
  fz : ∀ i, i < 6 → w.frozen? ⟨b, i, none⟩ = false

theorem Box.there {w : World} {b n : Nat} (h : Box w b n) : w.there b 0 6 := by
  intro j hj
  rw [Nat.zero_add, h.at' j hj, h.fz j hj]
  exact ⟨rfl, rfl⟩
theorem Box.below {W w1 : World} {b n : Nat} (h : Box W b n) (hb : Below W.heap.size W w1) : Box w1 b n :=
  ⟨Nat.lt_of_lt_of_le h.lt hb.size, fun i hi => keep1 hb h.lt (h.at' i hi), fun i hi => keepF hb h.lt (h.fz i hi)⟩
theorem Box.below' {W w1 : World} {b n : Nat} (hb : Below W.heap.size W w1) (lt : b < W.heap.size) (at' : ∀ i, i < 6 → W.cell? ⟨b, i, none⟩ = some (.int .u64 (dg n i))) (fz : ∀ i, i < 6 → W.frozen? ⟨b, i, none⟩ = false) : Box w1 b n := Box.below ⟨lt, at', fz⟩ hb
theorem undrew {B : Nat} {W w1 : World} (h : Below B W.drew w1) : Below B W w1 := ⟨h.os, h.tape, h.output, h.size, h.block⟩
theorem undrewN {B n : Nat} {W w1 : World} (h : Below B (W.drewN n) w1) : Below B W w1 := ⟨h.os, h.tape, h.output, h.size, h.block⟩
theorem size_setCells (b : Nat) : ∀ (vs : List Value) (o : Nat) (w : World), (w.setCells b o vs).heap.size = w.heap.size
  | [], _, _ => rfl
  | v :: r, o, w => by
    rw [World.setCells, size_setCells b r]
    simp
theorem frozen_setCells (b : Nat) : ∀ (vs : List Value) (o : Nat) (w : World) (x : Addr), (w.setCells b o vs).frozen? x = w.frozen? x
  | [], _, _, _ => rfl
  | v :: r, o, w, x => by
    rw [World.setCells, frozen_setCells b r]
    simp
theorem below_setCells (B b : Nat) (hb : B ≤ b) : ∀ (vs : List Value) (o : Nat) (a w : World), Below B a w → Below B a (w.setCells b o vs)
  | [], _, _, _, h => h
  | v :: r, o, a, w, h => by
    rw [World.setCells]
    exact below_setCells B b hb r (o + 1) a _ (h.setCell hb v)
theorem Box.put {w : World} {b n : Nat} (h : Box w b n) (m : Nat) : Box (put6 w b m) b m := by
  have hr := World.rangeAt_setCells_same w b 0 [.int .u64 (dg m 0), .int .u64 (dg m 1), .int .u64 (dg m 2), .int .u64 (dg m 3), .int .u64 (dg m 4), .int .u64 (dg m 5)] h.there
  refine ⟨by unfold put6; rw [size_setCells]; exact h.lt, fun i hi => ?_, fun i hi => by unfold put6; rw [frozen_setCells]; exact h.fz i hi⟩
  have hi' : i = 0 ∨ i = 1 ∨ i = 2 ∨ i = 3 ∨ i = 4 ∨ i = 5 := by omega
  unfold put6
  rcases hi' with rfl | rfl | rfl | rfl | rfl | rfl
  · exact hr 0 _ rfl
  · exact hr 1 _ rfl
  · exact hr 2 _ rfl
  · exact hr 3 _ rfl
  · exact hr 4 _ rfl
  · exact hr 5 _ rfl
theorem Box.other {w : World} {b n : Nat} (h : Box w b n) {c : Nat} (hc : b ≠ c) (m : Nat) : Box (put6 w c m) b n := by
  unfold put6
  refine ⟨by rw [size_setCells]; exact h.lt, fun i hi => ?_, fun i hi => by rw [frozen_setCells]; exact h.fz i hi⟩
  rw [World.cell?_setCells_out _ _ _ _ _ (fun e => absurd e hc)]
  exact h.at' i hi
theorem below_put6 {B b : Nat} {a w : World} (h : Below B a w) (hb : B ≤ b) (n : Nat) : Below B a (put6 w b n) := below_setCells B b hb _ _ _ _ h
theorem size_put6 (w : World) (b n : Nat) : (put6 w b n).heap.size = w.heap.size := size_setCells _ _ _ _
theorem Box.drewN {w : World} {b n : Nat} (h : Box w b n) (q : Nat) : Box (w.drewN q) b n := ⟨h.lt, h.at', h.fz⟩
theorem Box.alloc {w : World} {b n : Nat} (h : Box w b n) (o : Obj) : Box (w.alloc o) b n := by
  have hb : Below w.heap.size w (w.alloc o) := bal (Below.refl _ _) o
  exact h.below hb
/-- a block that holds a number's words from its making on -/
theorem Box.new (w : World) (n : Nat) : Box (w.alloc (.cells #[.int .u64 (dg n 0), .int .u64 (dg n 1), .int .u64 (dg n 2), .int .u64 (dg n 3), .int .u64 (dg n 4), .int .u64 (dg n 5)] 267)) w.heap.size n := by
  refine ⟨by simp, fun i hi => ?_, fun i hi => by simp⟩
  have hi' : i = 0 ∨ i = 1 ∨ i = 2 ∨ i = 3 ∨ i = 4 ∨ i = 5 := by omega
  rcases hi' with rfl | rfl | rfl | rfl | rfl | rfl <;> simp
theorem dg_zero (i : Nat) : dg 0 i = 0 := by simp [dg]
theorem Box.zero (w : World) : Box (w.alloc (.cells #[.int .u64 0, .int .u64 0, .int .u64 0, .int .u64 0, .int .u64 0, .int .u64 0] 267)) w.heap.size 0 := by
  have := Box.new w 0
  simpa only [dg_zero] using this

/-- the store of six words, under a name -/
def st46 (x y : Value) : Sem Unit := Instr.storeAt 267 x y
theorem st46_is (x y : Value) : Instr.storeAt 267 x y = st46 x y := rfl
theorem run_st46 (w : World) (b n : Nat) (ht : w.there b 0 6) : (st46 (.pointer (some ⟨b, 0, none⟩)) (.agg #[.int .u64 (dg n 0), .int .u64 (dg n 1), .int .u64 (dg n 2), .int .u64 (dg n 3), .int .u64 (dg n 4), .int .u64 (dg n 5)])).run Tryz.prog w = .ok () (put6 w b n) := run_put6 w b n ht
theorem run_st46_new (w : World) (b : Nat) (a0 a1 a2 a3 a4 a5 : Int) (hb : b = w.heap.size) : (st46 (.pointer (some ⟨b, 0, none⟩)) (.agg #[.int .u64 a0, .int .u64 a1, .int .u64 a2, .int .u64 a3, .int .u64 a4, .int .u64 a5])).run Tryz.prog (w.alloc (.cells #[.int .u64 0, .int .u64 0, .int .u64 0, .int .u64 0, .int .u64 0, .int .u64 0] 267)) = .ok () (w.alloc (.cells #[.int .u64 a0, .int .u64 a1, .int .u64 a2, .int .u64 a3, .int .u64 a4, .int .u64 a5] 267)) := by
  subst hb
  unfold st46
  simp [go_sem]

theorem plus_open (m n : Nat) (h : m + n < 4294967296 ^ 6) (w : World) :
    Calls Tryz.prog 220 #[.agg #[.int .u64 (dg m 0), .int .u64 (dg m 1), .int .u64 (dg m 2), .int .u64 (dg m 3), .int .u64 (dg m 4), .int .u64 (dg m 5)], wv n] w fun e w' => e = .returned (.agg #[.int .u64 (dg (m + n) 0), .int .u64 (dg (m + n) 1), .int .u64 (dg (m + n) 2), .int .u64 (dg (m + n) 3), .int .u64 (dg (m + n) 4), .int .u64 (dg (m + n) 5)]) ∧ Below w.heap.size w w' := plus_any m n h w
theorem minus_open (m n : Nat) (hm : m < 4294967296 ^ 6) (h : n ≤ m) (w : World) :
    Calls Tryz.prog 223 #[wv m, wv n] w fun e w' => e = .returned (.agg #[.int .u64 (dg (m - n) 0), .int .u64 (dg (m - n) 1), .int .u64 (dg (m - n) 2), .int .u64 (dg (m - n) 3), .int .u64 (dg (m - n) 4), .int .u64 (dg (m - n) 5)]) ∧ Below w.heap.size w w' := minus_any m n hm h w
theorem below_yes (m n : Nat) (hm : m < 4294967296 ^ 6) (hn : n < 4294967296 ^ 6) (h : m < n) (w : World) :
    Calls Tryz.prog 222 #[wv m, wv n] w fun e w' => e = .returned (.bool true) ∧ Below w.heap.size w w' := by
  have := below_any m n hm hn w
  rwa [show ltB m n = true from decide_eq_true h] at this
theorem below_no (m n : Nat) (hm : m < 4294967296 ^ 6) (hn : n < 4294967296 ^ 6) (h : ¬ m < n) (w : World) :
    Calls Tryz.prog 222 #[wv m, wv n] w fun e w' => e = .returned (.bool false) ∧ Below w.heap.size w w' := by
  have := below_any m n hm hn w
  rwa [show ltB m n = false from decide_eq_false h] at this

set_option maxHeartbeats 1000000 in
theorem is_yes (a : Int) (w : World) (h : -9223372036854775807 ≤ a) : Calls Tryz.prog 84 #[.int .i64 a] w fun e w' => e = .returned (.bool true) ∧ w' = w := by
  have hb : (a != -9223372036854775808) = true := by rw [bne_iff_ne]; omega
  clear h
  go_enter Tryz.func84, Tryz.ntmps84
  go_wp2
  go_ret
  exact ⟨rfl, rfl⟩
set_option maxHeartbeats 1000000 in
theorem is_no (w : World) : Calls Tryz.prog 84 #[.int .i64 (-9223372036854775808)] w fun e w' => e = .returned (.bool false) ∧ w' = w := by
  go_enter Tryz.func84, Tryz.ntmps84
  go_wp2
  go_ret
  exact ⟨rfl, rfl⟩
theorem amount_pos (n : Nat) (h : n < 9223372036854775808) (w : World) :
    Calls Tryz.prog 224 #[wv n, .bool false] w fun e w' => e = .returned (.tuple #[.int .i64 n, .bool true]) ∧ Below w.heap.size w w' := amount_fits n h false w
theorem amount_neg (n : Nat) (h : n < 9223372036854775808) (w : World) :
    Calls Tryz.prog 224 #[wv n, .bool true] w fun e w' => e = .returned (.tuple #[.int .i64 (-(n : Int)), .bool true]) ∧ Below w.heap.size w w' := amount_fits n h true w
theorem ret_ii {a b c d : Int} (h : a = b) (k : c = d) : Ending.returned (.tuple #[.int .i64 a, .int .i64 c]) = .returned (.tuple #[.int .i64 b, .int .i64 d]) := by rw [h, k]
end Go.Proofs.YtmgnlgobkkfjhaaGreatDoor.Mw
namespace Go.Proofs.YtmgnlgobkkfjhaaGreatDoor.Mw
open Go.ChangeShapes Go.WideShapes Go.ChangeAt Go.RowKit
set_option linter.unusedVariables false
attribute [local go_sem] setCell_drewN alloc_drewN
attribute [local go_sem ↓] st46_is
attribute [local go_sem] run_st46 run_st46_new

/-- what holds at a round's head -/
structure SumAt (zs : Nat → Int) (w wr : World) (k : Nat) : Prop where
  fine : anyMin zs k = false
  up : Box wr w.heap.size (upN zs k)
  dn : Box wr (w.heap.size + 1) (dnN zs k)
  bel : Below w.heap.size w wr

theorem p128 : 340282366920938463463374607431768211456 + 9223372036854775808 < 4294967296 ^ 6 := by decide

set_option maxHeartbeats 4000000 in
theorem rsum_any (zs : Nat → Int) (b off len cap : Nat) (hl : len ≤ 9223372036854775807) (hz : ∀ k, k < len → -9223372036854775808 ≤ zs k ∧ zs k ≤ 9223372036854775807) (w : World) (hc : ∀ k, k < len → w.cell? ⟨b, off + k, none⟩ = some (.int .i64 (zs k))) (hb : b < w.heap.size) :
    Calls Tryz.prog 168 #[.slice (some ⟨b, off, none⟩) len cap] w fun e w' => e = .returned (.tuple #[.int .i64 (sumSpec zs len).1, .int .i64 (sumSpec zs len).2]) ∧ Below w.heap.size w w' := by
  have hroom := hide (room zs len hl hz)
  go_enter Tryz.func168, Tryz.ntmps168
  go_wp2
  go_loopw [6] (fun i wr => ∃ (k : Nat), k ≤ len ∧ i = .int .i64 k ∧ SumAt zs w wr k) (fun i _ => len - (intOf i).toNat)
  case atStart => exact ⟨0, by omega, rfl, rfl, (Box.zero _).alloc _, by have h := Box.zero (w.alloc (.cells #[.int .u64 0, .int .u64 0, .int .u64 0, .int .u64 0, .int .u64 0, .int .u64 0] 267)); rw [World.size_alloc] at h; exact h, bal (bal (Below.refl _ _) _) _⟩
  case round =>
    rename_i wr
    obtain ⟨k, hk, rfl, hs⟩ := hrel
    by_cases hlt : k < len
    · have hck : wr.cell? ⟨b, off + k, none⟩ = some (.int .i64 (zs k)) := by rw [hs.bel.cell hb]; exact hc k hlt
      have hzk := hz k hlt
      have hbr : b < wr.heap.size := Nat.lt_of_lt_of_le hb hs.bel.size
      have hrk := (unhide hroom) k hk
      have HS := hide hs
      clear hc hz hroom
      by_cases hm : zs k = -9223372036854775808
      · have hbad := hide (sumSpec_bad hlt hm)
        rw [hm] at hck
        clear hzk hm hs hrk
        go_wp2_with (go_at_call 84; refine (is_no _).mono ?_; rintro e w' ⟨rfl, hw⟩; subst hw)
        go_ret2
        exact ⟨by rw [unhide hbad]; rfl, (unhide HS).bel⟩
      · have hm' : -9223372036854775807 ≤ zs k := by omega
        have hfine := hide (anyMin_step hs.fine hm)
        by_cases h0 : 0 ≤ zs k
        · have bu := hs.up
          have fit : upN zs k + (zs k).natAbs < 4294967296 ^ 6 := by have := p128; omega
          have FIT := hide fit
          have u0 := bu.at' 0 (by omega)
          have u1 := bu.at' 1 (by omega)
          have u2 := bu.at' 2 (by omega)
          have u3 := bu.at' 3 (by omega)
          have u4 := bu.at' 4 (by omega)
          have u5 := bu.at' 5 (by omega)
          have su := bu.lt
          clear hs hrk fit hm bu
          go_wp2_with (go_at_call 84; refine (is_yes _ _ (by omega)).mono ?_; rintro e w' ⟨rfl, hw⟩; subst hw)
          go_region_with (first | (go_at_call 221; refine (of_any _ _ (by omega) (by omega)).mono ?_; rintro e w1 ⟨rfl, hb1⟩; have B1 := Box.below' hb1 (unhide HS).up.lt (unhide HS).up.at' (unhide HS).up.fz; have k0 := B1.at' 0 (by omega); have k1 := B1.at' 1 (by omega); have k2 := B1.at' 2 (by omega); have k3 := B1.at' 3 (by omega); have k4 := B1.at' 4 (by omega); have k5 := B1.at' 5 (by omega); have kb := keep1 hb1 hbr hck) | (go_at_call 220; refine (plus_open (upN zs k) (zs k).natAbs (unhide FIT) _).mono ?_; rintro e w2 ⟨rfl, hb2⟩; have B2 := B1.below hb2; have hst := B2.there; have hcc := hide (And.intro hb1 hb2)))
          all_goals
            go_wp2
            refine ⟨⟨k + 1, by omega, by go_num, unhide hfine, ?_, ?_, ?_⟩, by simp [intOf]; omega⟩
            · rw [upN_pos h0]; exact B2.put _
            · rw [dnN_pos h0]
              exact ((Box.below' hb1 (unhide HS).dn.lt (unhide HS).dn.at' (unhide HS).dn.fz).below hb2).other (by omega) _
            · exact below_put6 (((unhide HS).bel.trans (undrew (hb1.mono (unhide HS).bel.size))).trans (hb2.mono (Nat.le_trans (unhide HS).bel.size hb1.size))) (Nat.le_refl _) _
        · have bu := hs.dn
          have fit : dnN zs k + (zs k).natAbs < 4294967296 ^ 6 := by have := p128; omega
          have FIT := hide fit
          have u0 := bu.at' 0 (by omega)
          have u1 := bu.at' 1 (by omega)
          have u2 := bu.at' 2 (by omega)
          have u3 := bu.at' 3 (by omega)
          have u4 := bu.at' 4 (by omega)
          have u5 := bu.at' 5 (by omega)
          have su := bu.lt
          clear hs hrk fit hm bu
          go_wp2_with (go_at_call 84; refine (is_yes _ _ (by omega)).mono ?_; rintro e w' ⟨rfl, hw⟩; subst hw)
          go_region_with (first | (go_at_call 221; refine (of_any _ _ (by omega) (by omega)).mono ?_; rintro e w1 ⟨rfl, hb1⟩; have B1 := Box.below' hb1 (unhide HS).dn.lt (unhide HS).dn.at' (unhide HS).dn.fz; have k0 := B1.at' 0 (by omega); have k1 := B1.at' 1 (by omega); have k2 := B1.at' 2 (by omega); have k3 := B1.at' 3 (by omega); have k4 := B1.at' 4 (by omega); have k5 := B1.at' 5 (by omega); have kb := keep1 hb1 hbr hck) | (go_at_call 220; refine (plus_open (dnN zs k) (zs k).natAbs (unhide FIT) _).mono ?_; rintro e w2 ⟨rfl, hb2⟩; have B2 := B1.below hb2; have hst := B2.there; have hcc := hide (And.intro hb1 hb2)))
          all_goals
            go_wp2
            refine ⟨⟨k + 1, by omega, by go_num, unhide hfine, ?_, ?_, ?_⟩, by simp [intOf]; omega⟩
            · rw [upN_neg (by omega)]
              exact ((Box.below' hb1 (unhide HS).up.lt (unhide HS).up.at' (unhide HS).up.fz).below hb2).other (by omega) _
            · rw [dnN_neg (by omega)]; exact B2.put _
            · exact below_put6 (((unhide HS).bel.trans (undrew (hb1.mono (unhide HS).bel.size))).trans (hb2.mono (Nat.le_trans (unhide HS).bel.size hb1.size))) (by omega) _
    · have hkl : k = len := by omega
      subst hkl
      clear hc hz hk
      have hrk := (unhide hroom) k (Nat.le_refl _)
      have hud := up_dn zs k
      have hU : upN zs k < 4294967296 ^ 6 := by have := p128; omega
      have hD : dnN zs k < 4294967296 ^ 6 := by have := p128; omega
      have HU := hide hU
      have HD := hide hD
      clear hU hD hroom
      have HS := hide hs
      have bu := hs.up
      have bd := hs.dn
      have u0 := bu.at' 0 (by omega)
      have u1 := bu.at' 1 (by omega)
      have u2 := bu.at' 2 (by omega)
      have u3 := bu.at' 3 (by omega)
      have u4 := bu.at' 4 (by omega)
      have u5 := bu.at' 5 (by omega)
      have d0 := bd.at' 0 (by omega)
      have d1 := bd.at' 1 (by omega)
      have d2 := bd.at' 2 (by omega)
      have d3 := bd.at' 3 (by omega)
      have d4 := bd.at' 4 (by omega)
      have d5 := bd.at' 5 (by omega)
      have su := bu.lt
      have sd := bd.lt
      by_cases hcmp : upN zs k < dnN zs k
      · by_cases hfit : dnN zs k - upN zs k < 9223372036854775808
        · have hfin := hide (sumSpec_fits hs.fine (by omega) (by omega))
          have heq := hide (show sumZ zs k = -((dnN zs k - upN zs k : Nat) : Int) by omega)
          have hcm := hide hcmp
          have hft := hide hfit
          clear hs bu bd hrk hud hcmp hfit
          go_wp2_with (first | (go_at_call 222; refine (below_yes (upN zs k) (dnN zs k) (unhide HU) (unhide HD) (unhide hcm) _).mono ?_; rintro e w1 ⟨rfl, hb1⟩; have B1u := (unhide HS).up.below hb1; have B1d := (unhide HS).dn.below hb1; have a0 := B1u.at' 0 (by omega); have c0 := B1d.at' 0 (by omega); have a1 := B1u.at' 1 (by omega); have c1 := B1d.at' 1 (by omega); have a2 := B1u.at' 2 (by omega); have c2 := B1d.at' 2 (by omega); have a3 := B1u.at' 3 (by omega); have c3 := B1d.at' 3 (by omega); have a4 := B1u.at' 4 (by omega); have c4 := B1d.at' 4 (by omega); have a5 := B1u.at' 5 (by omega); have c5 := B1d.at' 5 (by omega); have s1u := B1u.lt; have s1d := B1d.lt) | (go_at_call 223; refine (minus_open (dnN zs k) (upN zs k) (unhide HD) (Nat.le_of_lt (unhide hcm)) _).mono ?_; rintro e w2 ⟨rfl, hb2⟩; have B2 := (Box.new w1 (upN zs k)).below hb2; have hst := B2.there; have B3 := hide (B2.put (dnN zs k - upN zs k)); have p0 := (unhide B3).at' 0 (by omega); have p1 := (unhide B3).at' 1 (by omega); have p2 := (unhide B3).at' 2 (by omega); have p3 := (unhide B3).at' 3 (by omega); have p4 := (unhide B3).at' 4 (by omega); have p5 := (unhide B3).at' 5 (by omega)) | (go_at_call 224; refine (amount_neg _ (unhide hft) _).mono ?_; rintro e w3 ⟨rfl, hb3⟩))
          go_ret2
          exact ⟨by rw [unhide hfin, unhide heq]; rfl, by have c1 := (unhide HS).bel.trans (hb1.mono (unhide HS).bel.size); have c2 := bal c1 (.cells #[.int .u64 (dg (upN zs k) 0), .int .u64 (dg (upN zs k) 1), .int .u64 (dg (upN zs k) 2), .int .u64 (dg (upN zs k) 3), .int .u64 (dg (upN zs k) 4), .int .u64 (dg (upN zs k) 5)] 267); have c3 := c2.trans (hb2.mono c2.size); have c4 := below_put6 c3 c1.size (dnN zs k - upN zs k); exact c4.trans (hb3.mono c4.size)⟩
        · have hfin := hide (sumSpec_over hs.fine (by omega))
          have hcm := hide hcmp
          have hft := hide (show 9223372036854775808 ≤ dnN zs k - upN zs k by omega)
          have hlt6 := hide (show dnN zs k - upN zs k < 4294967296 ^ 6 by have := unhide HD; omega)
          clear hs bu bd hrk hud hcmp hfit
          go_wp2_with (first | (go_at_call 222; refine (below_yes (upN zs k) (dnN zs k) (unhide HU) (unhide HD) (unhide hcm) _).mono ?_; rintro e w1 ⟨rfl, hb1⟩; have B1u := (unhide HS).up.below hb1; have B1d := (unhide HS).dn.below hb1; have a0 := B1u.at' 0 (by omega); have c0 := B1d.at' 0 (by omega); have a1 := B1u.at' 1 (by omega); have c1 := B1d.at' 1 (by omega); have a2 := B1u.at' 2 (by omega); have c2 := B1d.at' 2 (by omega); have a3 := B1u.at' 3 (by omega); have c3 := B1d.at' 3 (by omega); have a4 := B1u.at' 4 (by omega); have c4 := B1d.at' 4 (by omega); have a5 := B1u.at' 5 (by omega); have c5 := B1d.at' 5 (by omega); have s1u := B1u.lt; have s1d := B1d.lt) | (go_at_call 223; refine (minus_open (dnN zs k) (upN zs k) (unhide HD) (Nat.le_of_lt (unhide hcm)) _).mono ?_; rintro e w2 ⟨rfl, hb2⟩; have B2 := (Box.new w1 (upN zs k)).below hb2; have hst := B2.there; have B3 := hide (B2.put (dnN zs k - upN zs k)); have p0 := (unhide B3).at' 0 (by omega); have p1 := (unhide B3).at' 1 (by omega); have p2 := (unhide B3).at' 2 (by omega); have p3 := (unhide B3).at' 3 (by omega); have p4 := (unhide B3).at' 4 (by omega); have p5 := (unhide B3).at' 5 (by omega)) | (go_at_call 224; refine (amount_over _ (unhide hlt6) (unhide hft) true _).mono ?_; rintro e w3 ⟨rfl, hb3⟩))
          go_ret2
          exact ⟨by rw [unhide hfin]; rfl, by have c1 := (unhide HS).bel.trans (hb1.mono (unhide HS).bel.size); have c2 := bal c1 (.cells #[.int .u64 (dg (upN zs k) 0), .int .u64 (dg (upN zs k) 1), .int .u64 (dg (upN zs k) 2), .int .u64 (dg (upN zs k) 3), .int .u64 (dg (upN zs k) 4), .int .u64 (dg (upN zs k) 5)] 267); have c3 := c2.trans (hb2.mono c2.size); have c4 := below_put6 c3 c1.size (dnN zs k - upN zs k); exact c4.trans (hb3.mono c4.size)⟩
      · by_cases hfit : upN zs k - dnN zs k < 9223372036854775808
        · have hfin := hide (sumSpec_fits hs.fine (by omega) (by omega))
          have heq := hide (show sumZ zs k = ((upN zs k - dnN zs k : Nat) : Int) by omega)
          have hcm := hide hcmp
          have hft := hide hfit
          clear hs bu bd hrk hud hcmp hfit
          go_wp2_with (first | (go_at_call 222; refine (below_no (upN zs k) (dnN zs k) (unhide HU) (unhide HD) (unhide hcm) _).mono ?_; rintro e w1 ⟨rfl, hb1⟩; have B1u := (unhide HS).up.below hb1; have B1d := (unhide HS).dn.below hb1; have a0 := B1u.at' 0 (by omega); have c0 := B1d.at' 0 (by omega); have a1 := B1u.at' 1 (by omega); have c1 := B1d.at' 1 (by omega); have a2 := B1u.at' 2 (by omega); have c2 := B1d.at' 2 (by omega); have a3 := B1u.at' 3 (by omega); have c3 := B1d.at' 3 (by omega); have a4 := B1u.at' 4 (by omega); have c4 := B1d.at' 4 (by omega); have a5 := B1u.at' 5 (by omega); have c5 := B1d.at' 5 (by omega); have s1u := B1u.lt; have s1d := B1d.lt) | (go_at_call 223; refine (minus_open (upN zs k) (dnN zs k) (unhide HU) (Nat.le_of_not_lt (unhide hcm)) _).mono ?_; rintro e w2 ⟨rfl, hb2⟩; have B2 := (Box.new w1 (upN zs k)).below hb2; have hst := B2.there; have B3 := hide (B2.put (upN zs k - dnN zs k)); have p0 := (unhide B3).at' 0 (by omega); have p1 := (unhide B3).at' 1 (by omega); have p2 := (unhide B3).at' 2 (by omega); have p3 := (unhide B3).at' 3 (by omega); have p4 := (unhide B3).at' 4 (by omega); have p5 := (unhide B3).at' 5 (by omega)) | (go_at_call 224; refine ( amount_pos _ (unhide hft) _).mono ?_; rintro e w3 ⟨rfl, hb3⟩))
          go_ret2
          exact ⟨by rw [unhide hfin, unhide heq]; rfl, by have c1 := (unhide HS).bel.trans (hb1.mono (unhide HS).bel.size); have c2 := bal c1 (.cells #[.int .u64 (dg (upN zs k) 0), .int .u64 (dg (upN zs k) 1), .int .u64 (dg (upN zs k) 2), .int .u64 (dg (upN zs k) 3), .int .u64 (dg (upN zs k) 4), .int .u64 (dg (upN zs k) 5)] 267); have c3 := c2.trans (hb2.mono c2.size); have c4 := below_put6 c3 c1.size (upN zs k - dnN zs k); exact c4.trans (hb3.mono c4.size)⟩
        · have hfin := hide (sumSpec_over hs.fine (by omega))
          have hcm := hide hcmp
          have hft := hide (show 9223372036854775808 ≤ upN zs k - dnN zs k by omega)
          have hlt6 := hide (show upN zs k - dnN zs k < 4294967296 ^ 6 by have := unhide HU; omega)
          clear hs bu bd hrk hud hcmp hfit
          go_wp2_with (first | (go_at_call 222; refine (below_no (upN zs k) (dnN zs k) (unhide HU) (unhide HD) (unhide hcm) _).mono ?_; rintro e w1 ⟨rfl, hb1⟩; have B1u := (unhide HS).up.below hb1; have B1d := (unhide HS).dn.below hb1; have a0 := B1u.at' 0 (by omega); have c0 := B1d.at' 0 (by omega); have a1 := B1u.at' 1 (by omega); have c1 := B1d.at' 1 (by omega); have a2 := B1u.at' 2 (by omega); have c2 := B1d.at' 2 (by omega); have a3 := B1u.at' 3 (by omega); have c3 := B1d.at' 3 (by omega); have a4 := B1u.at' 4 (by omega); have c4 := B1d.at' 4 (by omega); have a5 := B1u.at' 5 (by omega); have c5 := B1d.at' 5 (by omega); have s1u := B1u.lt; have s1d := B1d.lt) | (go_at_call 223; refine (minus_open (upN zs k) (dnN zs k) (unhide HU) (Nat.le_of_not_lt (unhide hcm)) _).mono ?_; rintro e w2 ⟨rfl, hb2⟩; have B2 := (Box.new w1 (upN zs k)).below hb2; have hst := B2.there; have B3 := hide (B2.put (upN zs k - dnN zs k)); have p0 := (unhide B3).at' 0 (by omega); have p1 := (unhide B3).at' 1 (by omega); have p2 := (unhide B3).at' 2 (by omega); have p3 := (unhide B3).at' 3 (by omega); have p4 := (unhide B3).at' 4 (by omega); have p5 := (unhide B3).at' 5 (by omega)) | (go_at_call 224; refine ( amount_over _ (unhide hlt6) (unhide hft) false _).mono ?_; rintro e w3 ⟨rfl, hb3⟩))
          go_ret2
          exact ⟨by rw [unhide hfin]; rfl, by have c1 := (unhide HS).bel.trans (hb1.mono (unhide HS).bel.size); have c2 := bal c1 (.cells #[.int .u64 (dg (upN zs k) 0), .int .u64 (dg (upN zs k) 1), .int .u64 (dg (upN zs k) 2), .int .u64 (dg (upN zs k) 3), .int .u64 (dg (upN zs k) 4), .int .u64 (dg (upN zs k) 5)] 267); have c3 := c2.trans (hb2.mono c2.size); have c4 := below_put6 c3 c1.size (upN zs k - dnN zs k); exact c4.trans (hb3.mono c4.size)⟩
end Go.Proofs.YtmgnlgobkkfjhaaGreatDoor.Mw
namespace Go.Proofs.YtmgnlgobkkfjhaaGreatDoor.Mw
open Go.ChangeShapes Go.WideShapes Go.ChangeAt Go.RowKit
set_option linter.unusedVariables false
attribute [local go_sem] setCell_drewN alloc_drewN
attribute [local go_sem ↓] st46_is
attribute [local go_sem] run_st46 run_st46_new

set_option maxHeartbeats 4000000 in
theorem rsum_zero (zs : Nat → Int) (a0 : Option Addr) (cap : Nat) (w : World) :
    Calls Tryz.prog 168 #[.slice a0 0 cap] w fun e w' => e = .returned (.tuple #[.int .i64 (sumSpec zs 0).1, .int .i64 (sumSpec zs 0).2]) ∧ Below w.heap.size w w' := by
  have hroom := hide (room zs 0 (by omega) (fun k hk => by omega))
  go_enter Tryz.func168, Tryz.ntmps168
  go_wp2
  go_loopw [6] (fun i wr => ∃ (k : Nat), k ≤ 0 ∧ i = .int .i64 k ∧ SumAt zs w wr k) (fun i _ => 0 - (intOf i).toNat)
  case atStart => exact ⟨0, by omega, rfl, rfl, (Box.zero _).alloc _, by have h := Box.zero (w.alloc (.cells #[.int .u64 0, .int .u64 0, .int .u64 0, .int .u64 0, .int .u64 0, .int .u64 0] 267)); rw [World.size_alloc] at h; exact h, bal (bal (Below.refl _ _) _) _⟩
  case round =>
    rename_i wr
    obtain ⟨k, hk, rfl, hs⟩ := hrel
    by_cases hlt : k < 0
    · omega
    · have hkl : k = 0 := by omega
      rw [hkl] at hs
      clear hkl hk
      have hrk := (unhide hroom) 0 (Nat.le_refl _)
      have hud := up_dn zs 0
      have hU : upN zs 0 < 4294967296 ^ 6 := by have := p128; omega
      have hD : dnN zs 0 < 4294967296 ^ 6 := by have := p128; omega
      have HU := hide hU
      have HD := hide hD
      clear hU hD hroom
      have HS := hide hs
      have bu := hs.up
      have bd := hs.dn
      have u0 := bu.at' 0 (by omega)
      have u1 := bu.at' 1 (by omega)
      have u2 := bu.at' 2 (by omega)
      have u3 := bu.at' 3 (by omega)
      have u4 := bu.at' 4 (by omega)
      have u5 := bu.at' 5 (by omega)
      have d0 := bd.at' 0 (by omega)
      have d1 := bd.at' 1 (by omega)
      have d2 := bd.at' 2 (by omega)
      have d3 := bd.at' 3 (by omega)
      have d4 := bd.at' 4 (by omega)
      have d5 := bd.at' 5 (by omega)
      have su := bu.lt
      have sd := bd.lt
      have z1 : upN zs 0 = 0 := rfl
      have z2 : dnN zs 0 = 0 := rfl
      by_cases hcmp : upN zs 0 < dnN zs 0
      · omega
      · by_cases hfit : upN zs 0 - dnN zs 0 < 9223372036854775808
        · have hfin := hide (sumSpec_fits hs.fine (by omega) (by omega))
          have heq := hide (show sumZ zs 0 = ((upN zs 0 - dnN zs 0 : Nat) : Int) by omega)
          have hcm := hide hcmp
          have hft := hide hfit
          clear hs bu bd hrk hud hcmp hfit z1 z2
          go_wp2_with (first | (go_at_call 222; refine (below_no (upN zs 0) (dnN zs 0) (unhide HU) (unhide HD) (unhide hcm) _).mono ?_; rintro e w1 ⟨rfl, hb1⟩; have B1u := (unhide HS).up.below hb1; have B1d := (unhide HS).dn.below hb1; have a0 := B1u.at' 0 (by omega); have c0 := B1d.at' 0 (by omega); have a1 := B1u.at' 1 (by omega); have c1 := B1d.at' 1 (by omega); have a2 := B1u.at' 2 (by omega); have c2 := B1d.at' 2 (by omega); have a3 := B1u.at' 3 (by omega); have c3 := B1d.at' 3 (by omega); have a4 := B1u.at' 4 (by omega); have c4 := B1d.at' 4 (by omega); have a5 := B1u.at' 5 (by omega); have c5 := B1d.at' 5 (by omega); have s1u := B1u.lt; have s1d := B1d.lt) | (go_at_call 223; refine (minus_open (upN zs 0) (dnN zs 0) (unhide HU) (Nat.le_of_not_lt (unhide hcm)) _).mono ?_; rintro e w2 ⟨rfl, hb2⟩; have B2 := (Box.new w1 (upN zs 0)).below hb2; have hst := B2.there; have B3 := hide (B2.put (upN zs 0 - dnN zs 0)); have p0 := (unhide B3).at' 0 (by omega); have p1 := (unhide B3).at' 1 (by omega); have p2 := (unhide B3).at' 2 (by omega); have p3 := (unhide B3).at' 3 (by omega); have p4 := (unhide B3).at' 4 (by omega); have p5 := (unhide B3).at' 5 (by omega)) | (go_at_call 224; refine ( amount_pos _ (unhide hft) _).mono ?_; rintro e w3 ⟨rfl, hb3⟩))
          go_ret2
          exact ⟨by rw [unhide hfin, unhide heq]; rfl, by have c1 := (unhide HS).bel.trans (hb1.mono (unhide HS).bel.size); have c2 := bal c1 (.cells #[.int .u64 (dg (upN zs 0) 0), .int .u64 (dg (upN zs 0) 1), .int .u64 (dg (upN zs 0) 2), .int .u64 (dg (upN zs 0) 3), .int .u64 (dg (upN zs 0) 4), .int .u64 (dg (upN zs 0) 5)] 267); have c3 := c2.trans (hb2.mono c2.size); have c4 := below_put6 c3 c1.size (upN zs 0 - dnN zs 0); exact c4.trans (hb3.mono c4.size)⟩
        · omega
end Go.Proofs.YtmgnlgobkkfjhaaGreatDoor.Mw
/- daily: rows, what they tell of an account; lists of states. -/
namespace Go.Proofs.YtmgnlgobkkfjhaaGreatDoor
open Go Go.Shelf Go.ChangeShapes Go.WideShapes Go.ChangeAt Go.RowKit Go.Maps
set_option linter.unusedVariables false
/-- a row's nine cells -/
structure Ro where
  i0 : Int
  i1 : Int
  day : Int
  i3 : Int
  s4 : ByteArray
  acc : ByteArray
  amt : Int
  s7 : ByteArray
  s8 : ByteArray
def Ro.vals (r : Ro) : List Value := [.int .i64 r.i0, .int .i64 r.i1, .int .i64 r.day, .int .i64 r.i3, .string r.s4, .string r.acc, .int .i64 r.amt, .string r.s7, .string r.s8]
def kR : Kd Ro := ⟨Ro.vals, 9, 66, 74, 104⟩
theorem kR_ok : KdOK kR := kd_ok (fun _ => rfl) (by decide) (fun x u hu => by simp [kR, Ro.vals] at hu; rcases hu with rfl | rfl | rfl | rfl | rfl | rfl | rfl | rfl | rfl <;> rfl) Tryz.underlying66 (z := .agg #[.int .i64 0, .int .i64 0, .int .i64 0, .int .i64 0, .string ⟨#[]⟩, .string ⟨#[]⟩, .int .i64 0, .string ⟨#[]⟩, .string ⟨#[]⟩]) (by kernel_rfl) rfl (by decide)
/-- a row that can be -/
def okR (r : Ro) : Prop := nameL r.acc.data.toList = true ∧ 1 ≤ r.day ∧ r.day ≤ 3652059 ∧ -9223372036854775807 ≤ r.amt
/-- what rows tell of an account -/
def tol (R : List Ro) (k : List UInt8) : Td := (R.filter fun r => decide (r.acc.data.toList = k)).map fun r => (r.day, r.amt)
theorem tol_len (R : List Ro) (k : List UInt8) : (tol R k).length ≤ R.length := by
  unfold tol
  rw [List.length_map]
  exact List.length_filter_le _ _
theorem tol_mem {R : List Ro} {k : List UInt8} {x : Int × Int} (h : x ∈ tol R k) : ∃ r ∈ R, r.acc.data.toList = k ∧ (r.day, r.amt) = x := by
  obtain ⟨r, hr, e⟩ := List.mem_map.1 h
  obtain ⟨h1, h2⟩ := List.mem_filter.1 hr
  exact ⟨r, h1, by simpa using h2, e⟩
/-- names in their order -/
def srt (l : List (List UInt8)) : List (List UInt8) := l.mergeSort (fun x y => decide (x ≤ y))
theorem srt_perm (l : List (List UInt8)) : (srt l).Perm l := List.mergeSort_perm _ _
/-- what State tells of names -/
def stl (F : List UInt8 → List Mk) (ss : List (List UInt8)) : List Dr := ss.flatMap fun k => (F k).map fun m => (⟨k.toArray⟩, m)
/-- the marks from a day tt another -/
def btw (S : List Mk) (fr tt : Int) : List Mk := S.filter fun m => decide (fr ≤ m.1) && decide (m.1 ≤ tt)
end Go.Proofs.YtmgnlgobkkfjhaaGreatDoor
