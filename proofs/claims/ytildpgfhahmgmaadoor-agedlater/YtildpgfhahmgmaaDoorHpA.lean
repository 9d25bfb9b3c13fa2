/- aged: least (52). -/
import Derived.Test.YtildpgfhahmgmaaDoorAgR
import Derived.Test.YtildpgfhahmgmaaDoorHpN
namespace Go.Proofs.YtildpgfhahmgmaaDoor
open Go Go.Shelf Go.ChangeShapes Go.WideShapes Go.ChangeAt Go.RowKit Go.Maps
set_option linter.unusedVariables false
theorem drew_two (w : World) (m n : Nat) : (w.drewN m).drewN n = w.drewN (m + n) := World.drewN_drewN w m n
/-- of two places the one that is there and of an earlier day -/
def lst (f : Nat → Int) (n a x : Nat) : Nat := if x < n ∧ f x < f a then x else a
theorem lst_lt {f : Nat → Int} {n a x : Nat} (h : a < n) : lst f n a x < n := by
  unfold lst
  split
  · rename_i hx; exact hx.1
  · exact h
theorem fold_lt {f : Nat → Int} {n : Nat} : ∀ (l : List Nat) {a : Nat}, a < n → l.foldl (lst f n) a < n
  | [], a, h => h
  | x :: l, a, h => fold_lt l (lst_lt h)
set_option maxRecDepth 100000 in
set_option maxHeartbeats 4000000 in
theorem least_any {W : World} {f : Nat → Int} {g n c q o m c2 a : Nat} {os : List Nat} (hn : n ≤ 1048576) (hf : ∀ k, k < n → W.cell? ⟨g, k * 2, none⟩ = some (.int .i64 (f k))) (hm : os.length = m) (hmb : m ≤ 1048576) (ho : ∀ j (hj : j < os.length), W.cell? ⟨q, o + j, none⟩ = some (.int .i64 (os[j] : Nat)) ∧ os[j] ≤ 4194304) (ha : a < n) :
    Calls Tryd.prog 52 #[.slice (some ⟨g, 0, none⟩) n c, .int .i64 a, .slice (some ⟨q, o, none⟩) m c2] W fun e w' => e = .returned (.int .i64 (os.foldl (lst f n) a : Nat)) ∧ ∃ k, w' = W.drewN k := by
  have HF := hide hf; have HO := hide ho; have HM := hide hm; have HA := hide ha
  clear hf ho hm ha
  go_enter Tryd.func52, Tryd.ntmps52
  go_wp2_with fail
  go_loopw [1, 11] (fun v1 v11 wr => ∃ (j k b : Nat), v11 = .int .i64 j ∧ j ≤ m ∧ v1 = .int .i64 b ∧ b < n ∧ Hid (b = (os.take j).foldl (lst f n) a) ∧ Hid (wr = W.drewN k)) (fun _ v11 _ => m - (intOf v11).toNat)
  case atStart => exact ⟨0, 0, a, rfl, by omega, rfl, unhide HA, rfl, rfl⟩
  case round =>
    obtain ⟨j, k, b, rfl, hj, rfl, hb, hbe, hw⟩ := hrel
    by_cases hlt : j < m
    · have hjl : j < os.length := by rw [unhide HM]; exact hlt
      obtain ⟨hc, hx⟩ := unhide HO j hjl
      obtain ⟨x, hxe⟩ : ∃ x, x = os[j] := ⟨_, rfl⟩
      rw [← hxe] at hc hx
      have hcw : wr.cell? ⟨q, o + j, none⟩ = some (.int .i64 (x : Nat)) := by rw [unhide hw]; simpa using hc
      have hcb : wr.cell? ⟨g, b * 2, none⟩ = some (.int .i64 (f b)) := by rw [unhide hw]; simpa using unhide HF b hb
      have hstep : Hid (lst f n b x = (os.take (j + 1)).foldl (lst f n) a) := by
        show _ = _
        rw [List.take_succ_eq_append_getElem hjl, List.foldl_append, ← unhide hbe, ← hxe]
        rfl
      have hwk : Hid (∀ k', wr.drewN k' = W.drewN (k + k')) := fun k' => by rw [unhide hw, drew_two]
      clear hxe hc hjl
      obtain ⟨X, hX⟩ : ∃ X : Int, (x : Int) = X := ⟨_, rfl⟩
      obtain ⟨F, hF⟩ : ∃ F, f b = F := ⟨_, rfl⟩
      rw [hF] at hcb
      by_cases h1 : x < n
      · have hcx : wr.cell? ⟨g, x * 2, none⟩ = some (.int .i64 (f x)) := by rw [unhide hw]; simpa using unhide HF x h1
        obtain ⟨G, hG⟩ : ∃ G, f x = G := ⟨_, rfl⟩
        rw [hG] at hcx
        by_cases h2 : G < F
        · have e : lst f n b x = x := by unfold lst; rw [if_pos ⟨h1, by rw [hG, hF]; exact h2⟩]
          rw [e] at hstep
          have d2 : decide (G < F) = true := decide_eq_true h2
          clear hF hG e hX
          go_wp2_with fail
          go_quiet (fail)
          go_wp2_with fail
          refine ⟨⟨j + 1, k + nq, x, by simp, by omega, rfl, h1, unhide hstep, unhide hwk _⟩, by simp [intOf]; omega⟩
        · have e : lst f n b x = b := by unfold lst; rw [if_neg (fun h => h2 (by rw [← hG, ← hF]; exact h.2))]
          rw [e] at hstep
          have d2 : decide (G < F) = false := decide_eq_false h2
          clear hF hG e hX
          go_wp2_with fail
          go_quiet (fail)
          go_wp2_with fail
          refine ⟨⟨j + 1, k + nq, b, by simp, by omega, rfl, hb, unhide hstep, unhide hwk _⟩, by simp [intOf]; omega⟩
      · have e : lst f n b x = b := by unfold lst; rw [if_neg (fun h => h1 h.1)]
        rw [e] at hstep
        have d2 : decide (x < n) = false := decide_eq_false h1
        clear hF e hX
        go_wp2_with fail
        go_quiet (fail)
        go_wp2_with fail
        refine ⟨⟨j + 1, k + nq, b, by simp, by omega, rfl, hb, unhide hstep, unhide hwk _⟩, by simp [intOf]; omega⟩
    · have hjm : j = m := by omega
      subst hjm
      have hbe' := unhide hbe
      rw [List.take_of_length_le (by rw [unhide HM]; omega)] at hbe'
      have HFN : Hid ((b : Int) = (os.foldl (lst f n) a : Nat)) := by show _ = _; rw [hbe']
      clear hbe'
      go_wp2_with fail
      go_ret
      exact ⟨congrArg (fun z => Ending.returned (Value.int .i64 z)) (unhide HFN), k, unhide hw⟩
end Go.Proofs.YtildpgfhahmgmaaDoor
