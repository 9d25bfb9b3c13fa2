import Derived.Test.YtcafhmlpmbkhkaaGreatDoorProg
import Derived.Test.YtcafhmlpmbkhkaaGreatDoorMnN
import Derived.WalkKit
import Derived.ProofKit
import Derived.OpenShut
import Derived.WalkLawsBesides
import Derived.Deep.QuietTactic
import Derived.BigQuiet
namespace Go.Proofs.YtcafhmlpmbkhkaaGreatDoor.Mw
open Go.ChangeShapes Go.WideShapes Go.ChangeAt Go.RowKit
set_option linter.unusedVariables false

theorem setCell_drewN (w : World) (n : Nat) (a : Addr) (v : Value) : (w.drewN n).setCell a v = (w.setCell a v).drewN n := rfl
theorem alloc_drewN (w : World) (n : Nat) (o : Obj) : (w.drewN n).alloc o = (w.alloc o).drewN n := rfl
attribute [local go_sem] setCell_drewN alloc_drewN
theorem bal {w W : World} (h : Below w.heap.size w W) (o : Obj) : Below w.heap.size w (W.alloc o) := h.alloc h.size o

/-- a number's six words, as a value -/
def wv (n : Nat) : Value := .agg #[.int .u64 (dg n 0), .int .u64 (dg n 1), .int .u64 (dg n 2), .int .u64 (dg n 3), .int .u64 (dg n 4), .int .u64 (dg n 5)]

theorem wv_of {z : Nat → Int} (h : digs z) (n : Nat) (hs : sm z 6 = n) : Value.agg #[.int .u64 (z 0), .int .u64 (z 1), .int .u64 (z 2), .int .u64 (z 3), .int .u64 (z 4), .int .u64 (z 5)] = wv n := by
  have e := dg_of_sm h n hs
  simp only [wv, e 0 (by omega), e 1 (by omega), e 2 (by omega), e 3 (by omega), e 4 (by omega), e 5 (by omega)]
theorem ret_wv {z : Nat → Int} (h : digs z) (n : Nat) (hs : sm z 6 = n) : Ending.returned (.agg #[.int .u64 (z 0), .int .u64 (z 1), .int .u64 (z 2), .int .u64 (z 3), .int .u64 (z 4), .int .u64 (z 5)]) = .returned (wv n) := by
  rw [wv_of h n hs]

set_option maxHeartbeats 2000000 in
theorem plus_raw (x y : Nat → Int) (hx : digs x) (hy : digs y) (w : World) :
    Calls Tryz.prog 144 #[.agg #[.int .u64 (x 0), .int .u64 (x 1), .int .u64 (x 2), .int .u64 (x 3), .int .u64 (x 4), .int .u64 (x 5)], .agg #[.int .u64 (y 0), .int .u64 (y 1), .int .u64 (y 2), .int .u64 (y 3), .int .u64 (y 4), .int .u64 (y 5)]] w fun e w' => ∃ (z : Nat → Int) (c : Int), e = .returned (.agg #[.int .u64 (z 0), .int .u64 (z 1), .int .u64 (z 2), .int .u64 (z 3), .int .u64 (z 4), .int .u64 (z 5)]) ∧ 0 ≤ c ∧ c ≤ 1 ∧ digs z ∧ plusRel x y z 6 c ∧ Below w.heap.size w w' := by
  go_enter Tryz.func144, Tryz.ntmps144
  go_wp2
  go_loopw [6, 7] (fun c i wr => ∃ (k : Nat) (c' : Int) (n : Nat) (z : Nat → Int), k ≤ 6 ∧ i = .int .i64 k ∧ c = .int .u64 c' ∧ 0 ≤ c' ∧ c' ≤ 1 ∧ digs z ∧ plusRel x y z k c' ∧ wr = ((((w.alloc (.cells #[.int .u64 (x 0), .int .u64 (x 1), .int .u64 (x 2), .int .u64 (x 3), .int .u64 (x 4), .int .u64 (x 5)] 202)).alloc (.cells #[.int .u64 (y 0), .int .u64 (y 1), .int .u64 (y 2), .int .u64 (y 3), .int .u64 (y 4), .int .u64 (y 5)] 202)).alloc (.cells #[.int .u64 0, .int .u64 0, .int .u64 0, .int .u64 0, .int .u64 0, .int .u64 0] 202)).alloc (.cells #[.int .u64 (z 0), .int .u64 (z 1), .int .u64 (z 2), .int .u64 (z 3), .int .u64 (z 4), .int .u64 (z 5)] 202)).drewN n) (fun _ i _ => 6 - (intOf i).toNat)
  case atStart => exact ⟨0, 0, 0, fun _ => 0, by omega, rfl, rfl, by omega, by omega, fun _ => by simp, plusRel_zero x y, rfl⟩
  case round =>
    obtain ⟨k, c', n, z, hk, rfl, rfl, hc0, hc1, hz, hr, rfl⟩ := hrel
    have hk' : k = 6 ∨ k = 0 ∨ k = 1 ∨ k = 2 ∨ k = 3 ∨ k = 4 ∨ k = 5 := by omega
    rcases hk' with rfl | hk'
    · go_wp2
      exact bodyPost_ret (v := .agg #[.int .u64 (z 0), .int .u64 (z 1), .int .u64 (z 2), .int .u64 (z 3), .int .u64 (z 4), .int .u64 (z 5)]) (by simp [results, Tryz.results144, go_sem]) rfl ⟨z, c', rfl, hc0, hc1, hz, hr, by repeat (first | exact Below.refl _ _ | apply below_drewN | apply bal)⟩
    rcases hk' with rfl | rfl | rfl | rfl | rfl | rfl
    · obtain ⟨hx0, hx1⟩ := hx 0
      obtain ⟨hy0, hy1⟩ := hy 0
      go_wp2
      go_quiet (fail)
      go_wp2
      exact ⟨⟨1, (c' + x 0 + y 0) / 4294967296, n + nq, upd z 0 ((c' + x 0 + y 0) % 4294967296), by omega, rfl, rfl, by omega, by omega, digs_upd hz _ _ (by omega) (by omega), plusRel_step hr _ _ (by omega), by simp [upd]⟩, by simp [intOf]⟩
    · obtain ⟨hx0, hx1⟩ := hx 1
      obtain ⟨hy0, hy1⟩ := hy 1
      go_wp2
      go_quiet (fail)
      go_wp2
      exact ⟨⟨2, (c' + x 1 + y 1) / 4294967296, n + nq, upd z 1 ((c' + x 1 + y 1) % 4294967296), by omega, rfl, rfl, by omega, by omega, digs_upd hz _ _ (by omega) (by omega), plusRel_step hr _ _ (by omega), by simp [upd]⟩, by simp [intOf]⟩
    · obtain ⟨hx0, hx1⟩ := hx 2
      obtain ⟨hy0, hy1⟩ := hy 2
      go_wp2
      go_quiet (fail)
      go_wp2
      exact ⟨⟨3, (c' + x 2 + y 2) / 4294967296, n + nq, upd z 2 ((c' + x 2 + y 2) % 4294967296), by omega, rfl, rfl, by omega, by omega, digs_upd hz _ _ (by omega) (by omega), plusRel_step hr _ _ (by omega), by simp [upd]⟩, by simp [intOf]⟩
    · obtain ⟨hx0, hx1⟩ := hx 3
      obtain ⟨hy0, hy1⟩ := hy 3
      go_wp2
      go_quiet (fail)
      go_wp2
      exact ⟨⟨4, (c' + x 3 + y 3) / 4294967296, n + nq, upd z 3 ((c' + x 3 + y 3) % 4294967296), by omega, rfl, rfl, by omega, by omega, digs_upd hz _ _ (by omega) (by omega), plusRel_step hr _ _ (by omega), by simp [upd]⟩, by simp [intOf]⟩
    · obtain ⟨hx0, hx1⟩ := hx 4
      obtain ⟨hy0, hy1⟩ := hy 4
      go_wp2
      go_quiet (fail)
      go_wp2
      exact ⟨⟨5, (c' + x 4 + y 4) / 4294967296, n + nq, upd z 4 ((c' + x 4 + y 4) % 4294967296), by omega, rfl, rfl, by omega, by omega, digs_upd hz _ _ (by omega) (by omega), plusRel_step hr _ _ (by omega), by simp [upd]⟩, by simp [intOf]⟩
    · obtain ⟨hx0, hx1⟩ := hx 5
      obtain ⟨hy0, hy1⟩ := hy 5
      go_wp2
      go_quiet (fail)
      go_wp2
      exact ⟨⟨6, (c' + x 5 + y 5) / 4294967296, n + nq, upd z 5 ((c' + x 5 + y 5) % 4294967296), by omega, rfl, rfl, by omega, by omega, digs_upd hz _ _ (by omega) (by omega), plusRel_step hr _ _ (by omega), by simp [upd]⟩, by simp [intOf]⟩

theorem plus_any (m n : Nat) (h : m + n < 4294967296 ^ 6) (w : World) :
    Calls Tryz.prog 144 #[wv m, wv n] w fun e w' => e = .returned (wv (m + n)) ∧ Below w.heap.size w w' := by
  unfold wv
  refine (plus_raw (dg m) (dg n) (digs_dg m) (digs_dg n) w).mono fun e w' hh => ?_
  obtain ⟨z, c, rfl, hc0, hc1, hz, ⟨_, hr⟩, hb⟩ := hh
  refine ⟨?_, hb⟩
  have hm : m < 4294967296 ^ 6 := by omega
  have hn : n < 4294967296 ^ 6 := by omega
  rw [sm_dg6 m hm, sm_dg6 n hn] at hr
  have hs := sm_nonneg hz 6
  exact ret_wv hz _ (by
    simp only [show (4294967296 : Int) ^ 6 = 6277101735386680763835789423207666416102355444464034512896 from by decide] at hr hs
    simp only [show 4294967296 ^ 6 = 6277101735386680763835789423207666416102355444464034512896 from by decide] at h
    omega)
end Go.Proofs.YtcafhmlpmbkhkaaGreatDoor.Mw
