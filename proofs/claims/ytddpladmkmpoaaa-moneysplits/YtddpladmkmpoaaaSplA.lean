import Derived.Test.YtddpladmkmpoaaaSumM
namespace Go.Proofs.Ytddpladmkmpoaaa
open Go.ChangeShapes Go.WideShapes Go.ChangeAt Go.RowKit
set_option linter.unusedVariables false

set_option maxRecDepth 100000 in
set_option maxHeartbeats 2000000 in
theorem weigh_ok (zs : Nat → Int) (b off len cap : Nat) (hl : len ≤ 1000) (hl0 : 0 < len) (hz : Hid (∀ k, k < len → 0 ≤ zs k ∧ zs k ≤ 9223372036854775807)) (w : World) (hc : Hid (∀ k, k < len → w.cell? ⟨b, off + k, none⟩ = some (.int .i64 (zs k))))
    (S : Int) (hS : Hid (sumSpec zs len = (S, 0))) (hS0 : S ≠ 0) :
    Calls Try.prog 44 #[.slice (some ⟨b, off, none⟩) len cap] w fun e w' => e = .returned (.tuple #[.int .i64 S, .int .i64 0]) ∧ w' = w := by
  have hSb : (S == 0) = false := by simpa using hS0
  have hl1 : ((len : Int) == 0) = false := by simp; omega
  have hl2 : (len : Int) ≤ 1000 := by omega
  have hl3 : ¬ (len : Int) = 0 := by omega
  have hm := hide (msum_any zs b off len cap (by omega) (fun k hk => ⟨by have := (unhide hz) k hk; omega, ((unhide hz) k hk).2⟩) w (unhide hc))
  go_enter Try.func44, Try.ntmps44
  go_wp2
  go_loop [18] (fun i => ∃ k : Nat, k ≤ len ∧ i = .int .i64 k) (fun i => len - (intOf i).toNat)
  case atStart => exact ⟨0, by omega, rfl⟩
  case round =>
    obtain ⟨k, hk, rfl⟩ := hrel
    by_cases hlt : k < len
    · have hck := (unhide hc) k hlt
      have hzk := ((unhide hz) k hlt).1
      go_wp2
      go_round
      case rel => exact ⟨k + 1, by omega, by go_num⟩
      case measure => simp [intOf]; omega
    · have hkl : k = len := by omega
      subst hkl
      go_wp2_with (go_at_call 8; refine (unhide hm).mono ?_; rintro e w' ⟨rfl, hw⟩; subst hw; rw [unhide hS])
      go_ret2
      exact ⟨rfl, rfl⟩
end Go.Proofs.Ytddpladmkmpoaaa
