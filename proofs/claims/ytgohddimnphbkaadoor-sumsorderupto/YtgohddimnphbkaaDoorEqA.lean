/- slices.Equal of balances (27). -/
import Derived.Test.YtgohddimnphbkaaDoorSbA
namespace Go.Proofs.YtgohddimnphbkaaDoor
open Go Go.RowKit Go.Shelf Go.ChangeShapes Go.WideShapes Go.ChangeAt Go.Maps Go.Sort
set_option linter.unusedVariables false
attribute [local go_sem ↓] ld47_is
set_option maxRecDepth 100000 in
set_option maxHeartbeats 4000000 in
theorem equal_any {W : World} {B B' : Nat} {v v' : Value} {f g : List UInt8 → Int} {l : List (List UInt8)} {n : Nat} (hn : l.length = n) (hn2 : n ≤ 549755813888) (h : W.ownsRow B 47 3 v n (balC f g l)) (h' : W.ownsRow B' 47 3 v' n (balC f g l)) :
    Calls Tryd.prog 27 #[v, v'] W fun e w' => e = .returned (.bool true) ∧ ∃ m, w' = W.drewN m := by
  obtain ⟨p1, c1, e1⟩ : ∃ p c, v = .slice p n c := by
    rcases h.2 with ⟨e, h2⟩ | ⟨g, cap, cur, e, _⟩
    · exact ⟨none, 0, by rw [e, h2]⟩
    · exact ⟨_, _, e⟩
  obtain ⟨p2, c2, e2⟩ : ∃ p c, v' = .slice p n c := by
    rcases h'.2 with ⟨e, h2⟩ | ⟨g, cap, cur, e, _⟩
    · exact ⟨none, 0, by rw [e, h2]⟩
    · exact ⟨_, _, e⟩
  subst e1 e2
  have H := hide h; have H' := hide h'
  clear h h'
  have hst := st47
  have hsh := sh47
  have heg := eg47
  have heq := eq47_same
  go_enter Tryd.func27, Tryd.ntmps27
  go_wp2_with fail
  go_loopw [13] (fun i wr => ∃ (k m : Nat), i = .int .i64 k ∧ k ≤ n ∧ Hid (wr = W.drewN m)) (fun i _ => n - (intOf i).toNat)
  case atStart => exact ⟨0, 0, rfl, by omega, rfl⟩
  case round =>
    obtain ⟨k, m, rfl, hk, hw⟩ := hrel
    by_cases hlt : k < n
    · have hkl : k < l.length := by omega
      obtain ⟨q1, d1, f1, r1⟩ := bal_cells hn (unhide H) hkl
      obtain ⟨q2, d2, f2, r2⟩ := bal_cells hn (unhide H') hkl
      have g1 : p1 = some ⟨q1, 0, none⟩ := by injection f1
      have g2 : p2 = some ⟨q2, 0, none⟩ := by injection f2
      subst g1 g2
      clear f1 f2
      obtain ⟨s, hs⟩ : ∃ s : ByteArray, s = ⟨(l[k]).toArray⟩ := ⟨_, rfl⟩
      have hse : encStr l[k] = .string s := by rw [hs]
      obtain ⟨x, hx⟩ : ∃ x, x = f l[k] := ⟨_, rfl⟩
      obtain ⟨y, hy⟩ : ∃ y, y = g l[k] := ⟨_, rfl⟩
      rw [hse, ← hx, ← hy] at r1 r2
      have l1 : ∀ d', (ld47 (.pointer (some ⟨q1, k * 3, none⟩))).run Tryd.prog (wr.drewN d') = .ok (.agg #[.string s, .int .i64 x, .int .i64 y]) (wr.drewN d') := fun d' => by
        rw [unhide hw]
        exact run_loadAt_mid (P := Tryd.prog) _ q1 (k * 3) 47 [.string s, .int .i64 x, .int .i64 y] _ r1 Tryd.underlying47 rfl size47
      have l2 : ∀ d', (ld47 (.pointer (some ⟨q2, k * 3, none⟩))).run Tryd.prog (wr.drewN d') = .ok (.agg #[.string s, .int .i64 x, .int .i64 y]) (wr.drewN d') := fun d' => by
        rw [unhide hw]
        exact run_loadAt_mid (P := Tryd.prog) _ q2 (k * 3) 47 [.string s, .int .i64 x, .int .i64 y] _ r2 Tryd.underlying47 rfl size47
      clear r1 r2 hse hs hx hy
      go_wp2_with fail
      go_quiet (fail)
      go_wp2_with fail
      refine ⟨⟨k + 1, m + nq, by simp, by omega, ?_⟩, by simp [intOf]; omega⟩
      show _ = _
      rw [unhide hw, drew_two]
    · have hkn : k = n := by omega
      subst hkn
      go_wp2_with fail
      go_ret
      exact ⟨rfl, m, unhide hw⟩
end Go.Proofs.YtgohddimnphbkaaDoor
