/- slices.Equal of days (26), of equal lists. -/
import Derived.Test.YtenoaechonpjgaaDoorDlM
namespace Go.Proofs.YtenoaechonpjgaaDoor
open Go Go.Shelf Go.ChangeShapes Go.WideShapes Go.ChangeAt Go.RowKit Go.Maps Go.Sort
set_option linter.unusedVariables false
attribute [local go_sem ↓] ld44_is
set_option maxRecDepth 100000 in
set_option maxHeartbeats 4000000 in
theorem equal_any {W : World} {p1 p2 : Option Addr} {c1 c2 n : Nat} {L : List Dr} (hn : L.length = n) (hn2 : n ≤ 1099511627776) (h : Lies kD W p1 L) (h' : Lies kD W p2 L) :
    Calls Tryd.prog 26 #[.slice p1 n c1, .slice p2 n c2] W fun e w' => e = .returned (.bool true) ∧ ∃ m, w' = W.drewN m := by
  have H := hide h; have H' := hide h'; have HN := hide hn
  have hst := st44
  have hsh := sh44
  have heg := eg44
  have heq := eq44_same
  clear h h' hn
  go_enter Tryd.func26, Tryd.ntmps26
  go_wp2_with fail
  go_loopw [13] (fun i wr => ∃ (k m : Nat), i = .int .i64 k ∧ k ≤ n ∧ Hid (wr = W.drewN m)) (fun i _ => n - (intOf i).toNat)
  case atStart => exact ⟨0, 0, rfl, by omega, rfl⟩
  case round =>
    obtain ⟨k, m, rfl, hk, hw⟩ := hrel
    by_cases hlt : k < n
    · have hkl : k < L.length := by rw [unhide HN]; exact hlt
      obtain ⟨b1, o1, e1, _, r1⟩ := (unhide H).2 k hkl
      obtain ⟨b2, o2, e2, _, r2⟩ := (unhide H').2 k hkl
      subst e1 e2
      obtain ⟨s, x, y, z, hxyz⟩ : ∃ s x y z, L[k] = (s, x, y, z) := ⟨_, _, _, _, rfl⟩
      rw [hxyz] at r1 r2
      have l1 : ∀ d', (ld44 (.pointer (some ⟨b1, o1 + k * 4, none⟩))).run Tryd.prog (wr.drewN d') = .ok (.agg #[.string s, .int .i64 x, .int .i64 y, .int .i64 z]) (wr.drewN d') := fun d' => by
        rw [unhide hw]
        exact run_loadAt_mid (P := Tryd.prog) _ b1 (o1 + k * 4) 44 [.string s, .int .i64 x, .int .i64 y, .int .i64 z] _ (fun j u hu => by have h1 : W.cell? ⟨b1, o1 + k * 4 + j, none⟩ = some u := r1 j u hu; simpa using h1) Tryd.underlying44 rfl size44
      have l2 : ∀ d', (ld44 (.pointer (some ⟨b2, o2 + k * 4, none⟩))).run Tryd.prog (wr.drewN d') = .ok (.agg #[.string s, .int .i64 x, .int .i64 y, .int .i64 z]) (wr.drewN d') := fun d' => by
        rw [unhide hw]
        exact run_loadAt_mid (P := Tryd.prog) _ b2 (o2 + k * 4) 44 [.string s, .int .i64 x, .int .i64 y, .int .i64 z] _ (fun j u hu => by have h1 : W.cell? ⟨b2, o2 + k * 4 + j, none⟩ = some u := r2 j u hu; simpa using h1) Tryd.underlying44 rfl size44
      clear r1 r2 hxyz hkl
      go_wp2_with fail
      go_quiet (fail)
      go_wp2_with fail
      refine ⟨⟨k + 1, m + nq, by simp, by omega, ?_⟩, by simp [intOf]; omega⟩
      show _ = _
      rw [unhide hw, drew_two]
    · have hkn : k = n := by omega
      subst hkn
      go_wp2_with fail
      go_ret
      exact ⟨rfl, m, unhide hw⟩
end Go.Proofs.YtenoaechonpjgaaDoor
