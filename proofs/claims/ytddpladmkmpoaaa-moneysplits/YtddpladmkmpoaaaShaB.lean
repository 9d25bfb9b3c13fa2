import Derived.Test.YtddpladmkmpoaaaShaN
namespace Go.Proofs.Ytddpladmkmpoaaa
open Go.ChangeShapes Go.WideShapes Go.ChangeAt Go.RowKit
set_option linter.unusedVariables false
set_option maxHeartbeats 2000000 in
/-- same -/
theorem same_any (f g : Nat → Int) (a b n ca cb : Nat) (hn : n ≤ 1000) (w : World) (ha : Hid (∀ k, k < n → w.cell? ⟨a, 0 + k, none⟩ = some (.int .i64 (f k)))) (hb : Hid (∀ k, k < n → w.cell? ⟨b, 0 + k, none⟩ = some (.int .i64 (g k)))) (he : Hid (∀ k, k < n → f k = g k)) :
    Calls Try.prog 25 #[.slice (some ⟨a, 0, none⟩) n ca, .slice (some ⟨b, 0, none⟩) n cb] w fun e w' => e = .returned (.bool true) ∧ ∃ m, w' = w.drewN m := by
  have hnn : ((n : Int) != (n : Int)) = false := by simp
  go_enter Try.func25, Try.ntmps25
  go_wp2
  go_loopw [5] (fun i wr => ∃ (k m : Nat), k ≤ n ∧ i = .int .i64 k ∧ wr = w.drewN m) (fun i _ => n - (intOf i).toNat)
  case atStart => exact ⟨0, 0, by omega, rfl, rfl⟩
  case round =>
    obtain ⟨k, m, hk, rfl, rfl⟩ := hrel
    by_cases hlt : k < n
    · have h1 := unhide ha k hlt
      have h2 := unhide hb k hlt
      rw [← unhide he k hlt] at h2
      rw [Nat.zero_add] at h1 h2
      obtain ⟨v, hv⟩ : ∃ v, f k = v := ⟨_, rfl⟩
      rw [hv] at h1 h2
      have hz : (v != v) = false := by simp
      clear hv
      have hI : (k : Int) < (n : Int) := by omega
      have h0 : (0 : Int) ≤ (k : Int) := by omega
      clear ha hb he
      go_wp2
      go_quiet (fail)
      go_wp2
      go_roundw
      case rel => exact ⟨k + 1, m + nq, by omega, by go_num, rfl⟩
      case measure => simp [intOf]; omega
    · have hI : ¬ (k : Int) < (n : Int) := by omega
      go_wp2
      go_ret
      exact ⟨rfl, m, rfl⟩
end Go.Proofs.Ytddpladmkmpoaaa
