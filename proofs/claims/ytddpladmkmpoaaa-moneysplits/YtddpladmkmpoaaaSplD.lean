import Derived.Test.YtddpladmkmpoaaaSplC
import Derived.Test.YtddpladmkmpoaaaRinN
import Derived.Laws.AppendOwn
import Derived.Laws.AppendOwnNone
import Derived.Laws.OwnMore
import Derived.Deep.AppendLies
import Derived.Deep.MidRow
import Derived.Lib.OwnBridge
namespace Go.Proofs.Ytddpladmkmpoaaa
open Go.ChangeShapes Go.WideShapes Go.ChangeAt Go.RowKit Go.Sort Go.Lib Go.Shelf
set_option linter.unusedVariables false
attribute [local go_sem ↓] ld50_is st50_is
theorem sw_below {w0 W : World} {blk B : Nat} {dk : Array Sh} (h : SWK enc3 3 w0 blk 0 dk W) (hB : B ≤ blk) (hw : B ≤ w0.heap.size) : Go.RowKit.Below B w0 W := by
  obtain ⟨n, os, rfl⟩ := h
  have h1 : Go.RowKit.Below B w0 (putRowK enc3 3 (Sort.ahead w0 n) blk 0 dk) := below_putRow (Go.RowKit.Below.refl B w0) hB
  unfold sortWorldK
  refine ⟨h1.os, h1.tape, h1.output, ?_, ?_⟩
  · have := h1.size
    show w0.heap.size ≤ (_ ++ os).size
    rw [Array.size_append]
    omega
  · intro k hk
    show (_ ++ os)[k]? = _
    have hs := h1.size
    rw [Array.getElem?_append_left (by omega)]
    exact h1.block k hk
set_option maxHeartbeats 1000000 in
theorem weigh_none (a0 : Option Addr) (cap : Nat) (w : World) : Calls Try.prog 44 #[.slice a0 0 cap] w fun e w' => e = .returned (.tuple #[.int .i64 0, .int .i64 13]) ∧ w' = w := by
  go_enter Try.func44, Try.ntmps44
  go_wp2
  go_ret2
  exact ⟨rfl, rfl⟩
set_option maxHeartbeats 1000000 in
theorem weigh_many (a0 : Option Addr) (len cap : Nat) (hl : 1000 < len) (w : World) : Calls Try.prog 44 #[.slice a0 len cap] w fun e w' => e = .returned (.tuple #[.int .i64 0, .int .i64 13]) ∧ w' = w := by
  have hl1 : ((len : Int) == 0) = false := by rw [beq_eq_false_iff_ne]; omega
  have hl2 : (1000 : Int) < (len : Int) := by omega
  go_enter Try.func44, Try.ntmps44
  go_wp2
  go_ret2
  exact ⟨rfl, rfl⟩
set_option maxRecDepth 100000 in
set_option maxHeartbeats 2000000 in
theorem weigh_neg (zs : Nat → Int) (b off len cap : Nat) (hl : len ≤ 1000) (w : World) (hc : Hid (∀ k, k < len → w.cell? ⟨b, off + k, none⟩ = some (.int .i64 (zs k)))) (k0 : Nat) (hk0 : k0 < len) (hneg : zs k0 < 0) (hpos : Hid (∀ k, k < k0 → 0 ≤ zs k)) :
    Calls Try.prog 44 #[.slice (some ⟨b, off, none⟩) len cap] w fun e w' => e = .returned (.tuple #[.int .i64 0, .int .i64 13]) ∧ w' = w := by
  have hl1 : ((len : Int) == 0) = false := by rw [beq_eq_false_iff_ne]; omega
  have hl2 : ¬ (1000 : Int) < (len : Int) := by omega
  go_enter Try.func44, Try.ntmps44
  go_wp2
  go_loop [18] (fun i => ∃ k : Nat, k ≤ k0 ∧ i = .int .i64 k) (fun i => len - (intOf i).toNat)
  case atStart => exact ⟨0, by omega, rfl⟩
  case round =>
    obtain ⟨k, hk, rfl⟩ := hrel
    have hck := (unhide hc) k (by omega)
    have hI : (k : Int) < (len : Int) := by omega
    by_cases e : k = k0
    · subst e
      go_wp2
      go_ret2
      exact ⟨rfl, rfl⟩
    · have hzk := unhide hpos k (by omega)
      go_wp2
      go_round
      case rel => exact ⟨k + 1, by omega, by go_num⟩
      case measure => simp [intOf]; omega
set_option maxRecDepth 100000 in
set_option maxHeartbeats 2000000 in
theorem weigh_sum (zs : Nat → Int) (b off len cap : Nat) (hl : len ≤ 1000) (hl0 : 0 < len) (hz : Hid (∀ k, k < len → 0 ≤ zs k ∧ zs k ≤ 9223372036854775807)) (w : World) (hc : Hid (∀ k, k < len → w.cell? ⟨b, off + k, none⟩ = some (.int .i64 (zs k))))
    (S e0 : Int) (hS : Hid (sumSpec zs len = (S, e0))) (hbad : (e0 != 0) = true ∨ (e0 != 0) = false ∧ S = 0) :
    Calls Try.prog 44 #[.slice (some ⟨b, off, none⟩) len cap] w fun e w' => e = .returned (.tuple #[.int .i64 0, .int .i64 13]) ∧ w' = w := by
  have hl1 : ((len : Int) == 0) = false := by rw [beq_eq_false_iff_ne]; omega
  have hl2 : ¬ (1000 : Int) < (len : Int) := by omega
  have hm := hide (msum_any zs b off len cap (by omega) (fun k hk => ⟨by have := (unhide hz) k hk; omega, ((unhide hz) k hk).2⟩) w (unhide hc))
  have HB := hide hbad
  clear hbad
  go_enter Try.func44, Try.ntmps44
  go_wp2
  go_loop [18] (fun i => ∃ k : Nat, k ≤ len ∧ i = .int .i64 k) (fun i => len - (intOf i).toNat)
  case atStart => exact ⟨0, by omega, rfl⟩
  case round =>
    obtain ⟨k, hk, rfl⟩ := hrel
    by_cases hlt : k < len
    · have hck := (unhide hc) k hlt
      have hzk := ((unhide hz) k hlt).1
      go_wp2
      go_round
      case rel => exact ⟨k + 1, by omega, by go_num⟩
      case measure => simp [intOf]; omega
    · have hkl : k = len := by omega
      subst hkl
      go_wp2_with fail
      refine (unhide hm).mono ?_
      rintro e w' ⟨rfl, hw⟩
      subst hw
      rw [unhide hS]
      rcases unhide HB with h | ⟨h, rfl⟩
      all_goals
        go_wp2
        go_ret2
        exact ⟨rfl, rfl⟩
end Go.Proofs.Ytddpladmkmpoaaa
