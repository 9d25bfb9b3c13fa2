/- typing: the law's sameInts 17, like 15. -/
import Derived.Test.YtfpbljfebjochaaGreatDoorTyP
namespace Go.Proofs.YtfpbljfebjochaaGreatDoor
open Go Go.Shelf Go.ChangeShapes Go.WideShapes Go.ChangeAt Go.RowKit Go.Maps
set_option linter.unusedVariables false
set_option maxRecDepth 100000
set_option maxHeartbeats 4000000
theorem same_any {W : World} {p1 p2 : Option Addr} {n1 n2 c1 c2 : Nat} {A B : List Int} (h1 : A.length = n1) (h2 : B.length = n2) (hA : Lies kI W p1 A) (hB : Lies kI W p2 B) (hb : n1 ≤ 70000000000000) (hb2 : n2 ≤ 70000000000000) :
    Calls Tryz.prog 9 #[.slice p1 n1 c1, .slice p2 n2 c2] W fun e w' => e = .returned (.bool (decide (A = B))) ∧ Below W.heap.size W w' := by
  by_cases hn : n1 = n2
  · subst hn
    have HA := hide hA; have HB := hide hB; have H1 := hide h1; have H2 := hide h2
    clear hA hB h1 h2
    go_enter Tryz.func9, Tryz.ntmps9
    go_wp2_with fail
    go_loopw [5] (fun v wr => ∃ (k : Nat), v = .int .i64 k ∧ k ≤ n1 ∧ Hid (Below W.heap.size W wr ∧ A.take k = B.take k)) (fun v _ => n1 - (intOf v).toNat)
    case atStart => exact ⟨0, rfl, by omega, Below.refl _ _, by simp⟩
    case round =>
      obtain ⟨k, rfl, hk, hrel⟩ := hrel
      by_cases hlt : k < n1
      · have hka : k < A.length := by rw [unhide H1]; exact hlt
        have hkb : k < B.length := by rw [unhide H2]; exact hlt
        obtain ⟨b1, o1, e1, l1, r1⟩ := (unhide HA).2 k hka
        obtain ⟨b2, o2, e2, l2, r2⟩ := (unhide HB).2 k hkb
        obtain ⟨x, hx⟩ : ∃ x, x = A[k] := ⟨_, rfl⟩
        obtain ⟨y, hy⟩ : ∃ y, y = B[k] := ⟨_, rfl⟩
        rw [← hx] at r1
        rw [← hy] at r2
        have hc1 : wr.cell? ⟨b1, o1 + k, none⟩ = some (.int .i64 x) := by
          have := ((unhide hrel).1.cell (p := ⟨b1, o1 + k * kI.s + 0, none⟩) l1).trans (r1 0 (.int .i64 x) rfl)
          simpa [kI] using this
        have hc2 : wr.cell? ⟨b2, o2 + k, none⟩ = some (.int .i64 y) := by
          have := ((unhide hrel).1.cell (p := ⟨b2, o2 + k * kI.s + 0, none⟩) l2).trans (r2 0 (.int .i64 y) rfl)
          simpa [kI] using this
        have hstep : Hid (x = y → A.take (k + 1) = B.take (k + 1)) := fun e => by
          rw [List.take_succ_eq_append_getElem hka, List.take_succ_eq_append_getElem hkb, (unhide hrel).2, ← hx, ← hy, e]
        have hbad : Hid (¬ x = y → ¬ A = B) := fun e e' => e (by
          rw [hx, hy]
          subst e'
          rfl)
        have hkn : (k : Int) < (n1 : Int) := by omega
        subst e1 e2
        clear r1 r2 hx hy hka hkb l1 l2
        by_cases e : x = y
        · have hs := hide (unhide hstep e)
          subst e
          clear hstep hbad
          go_wp2_with fail
          go_quiet (fail)
          go_wp2_with fail
          exact ⟨⟨k + 1, by simp, by omega, below_drewN (unhide hrel).1 _, unhide hs⟩, by simp [intOf]; omega⟩
        · have hs := hide (unhide hbad e)
          have e' := beqF e
          have e'' : (x != y) = true := by simpa using e
          clear hstep hbad
          go_wp2_with fail
          go_quiet (fail)
          go_wp2_with fail
          go_ret
          refine ⟨by rw [decide_eq_false (unhide hs)]; rfl, ?_⟩
          exact below_drewN (unhide hrel).1 _
      · have hkn : k = n1 := by omega
        subst hkn
        have hf : Hid (A = B) := by
          have := (unhide hrel).2
          rwa [List.take_of_length_le (by rw [unhide H1]; exact Nat.le_refl _), List.take_of_length_le (by rw [unhide H2]; exact Nat.le_refl _)] at this
        go_wp2_with fail
        go_ret
        refine ⟨by rw [decide_eq_true (unhide hf)]; rfl, ?_⟩
        exact (unhide hrel).1
  · have hd : decide (A = B) = false := decide_eq_false (fun e => hn (by rw [← h1, ← h2, e]))
    have hn' : ¬ (n1 : Int) = (n2 : Int) := by omega
    have hn'' := beqF hn'
    have hn3 : ((n1 : Int) != (n2 : Int)) = true := by simpa using hn'
    rw [hd]
    clear hA hB h1 h2 hd
    go_enter Tryz.func9, Tryz.ntmps9
    go_wp2_with fail
    go_ret
    exact ⟨rfl, Below.refl _ _⟩
attribute [local go_sem ↓] ld32_is
/-- all tables lie there -/
structure Tab (W : World) : Prop where
  f : Flds W
  m : Mon W
  r : Recs W
theorem Tab.below {w w' : World} (h : Tab w) (hb : Below w.heap.size w w') : Tab w' := ⟨h.f.below hb, h.m.below hb, h.r.below hb⟩
/-- do two queries mean something alike? -/
def likS (q r : Qy) : Bool := (chkE q == chkE r) && decide (chkL q = chkL r)
theorem chkL_len {W : World} {q : Qy} {a : Qa} (hq : QIn W q a) : (chkL q).length ≤ 26400000000000 := by
  unfold chkL colS
  have := hq.nb
  have := hq.ns
  split
  · simp; omega
  · simp
end Go.Proofs.YtfpbljfebjochaaGreatDoor
