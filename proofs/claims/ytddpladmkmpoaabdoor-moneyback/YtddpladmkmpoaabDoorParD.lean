import Derived.Test.YtddpladmkmpoaabDoorParC
namespace Go.Proofs.YtddpladmkmpoaabDoor
open Go.ChangeShapes Go.WideShapes Go.ChangeAt Go.RowKit
set_option linter.unusedVariables false
theorem unsg_len (L : List UInt8) : (unsg L).length ≤ L.length := by
  unfold unsg
  split
  · rw [List.length_tail]; omega
  · exact Nat.le_refl _
theorem cutP_len (u : List UInt8) : (cutP u).1.length + (cutP u).2.1.length ≤ u.length := by
  induction u with
  | nil => rw [cut_nil]; exact Nat.le_refl _
  | cons c r ih =>
    by_cases hc : c = 46
    · subst hc
      rw [cut_dot]
      simp
    · rw [cut_other hc]
      simp only [List.length_cons]
      omega
theorem cutP_no (u : List UInt8) (h : (cutP u).2.2 = false) : (cutP u).2.1 = [] := by
  induction u with
  | nil => rw [cut_nil]
  | cons c r ih =>
    by_cases hc : c = 46
    · subst hc
      rw [cut_dot] at h
      cases h
    · rw [cut_other hc] at h ⊢
      exact ih h
theorem allD_iff (l : List UInt8) : allD l = true ↔ l.all isDig = true ∧ ¬ l.length = 0 := by
  unfold allD
  rw [Bool.and_eq_true, decide_eq_true_eq]
theorem pN_none {D : Nat} {u : List UInt8} (h : ¬ (allD (cutP u).1 = true ∧ ((cutP u).2.2 = true → allD (cutP u).2.1 = true) ∧ (cutP u).2.1.length ≤ D)) : pN D u = none := by
  unfold pN
  rw [if_neg]
  intro h'
  apply h
  rw [allD_iff, allD_iff]
  exact ⟨h'.1, h'.2.1, h'.2.2⟩
theorem pN_some {D : Nat} {u : List UInt8} (h : allD (cutP u).1 = true) (h2 : (cutP u).2.2 = true → allD (cutP u).2.1 = true) (h3 : (cutP u).2.1.length ≤ D) : pN D u = some (decFrom 0 ((cutP u).1 ++ (cutP u).2.1) * 10 ^ (D - (cutP u).2.1.length)) := by
  unfold pN
  rw [if_pos]
  rw [allD_iff] at h
  exact ⟨h, fun hp => (allD_iff _).1 (h2 hp), h3⟩
theorem parSpec_none {L : List UInt8} {D : Nat} (h : pN D (unsg L) = none) : parSpec L D = (0, 12) := by unfold parSpec; rw [h]
theorem parSpec_fits {L : List UInt8} {D n : Nat} (h : pN D (unsg L) = some n) (hn : n < 9223372036854775808) : parSpec L D = (if minusB L then -(n : Int) else n, 0) := by unfold parSpec; rw [h]; simp only [if_pos hn]
theorem parSpec_over {L : List UInt8} {D n : Nat} (h : pN D (unsg L) = some n) (hn : 9223372036854775808 ≤ n) : parSpec L D = (0, 11) := by unfold parSpec; rw [h]; simp only [if_neg (show ¬ n < 9223372036854775808 by omega)]
theorem all_zeros (n : Nat) : (List.replicate n (48 : UInt8)).all isDig = true := by
  rw [List.all_eq_true]
  intro x hx
  rw [List.eq_of_mem_replicate hx]
  decide
theorem mparse_any (L : List UInt8) (D : Nat) (w : World) (hD : D ≤ 6) (hL : L.length ≤ 40) (m : Int) (hm : w.cell? ⟨2, 0, none⟩ = some (.int .i64 m)) (ev : Value) (hv : w.cell? ⟨4, 0, none⟩ = some ev) (hev : ev = .nilIface ∨ ∃ te pe, ev = .iface te pe) :
    Calls Tryd.prog 16 #[.string ⟨L.toArray⟩, .int .i64 D] w fun e w' => e = .returned (.tuple #[.int .i64 (parSpec L D).1, .int .i64 (parSpec L D).2]) ∧ Below w.heap.size w w' := by
  have hUl := unsg_len L
  have hCl := cutP_len (unsg L)
  have c1 := cutpre L
  have c2 := cutdot (unsg L) w m (by omega) hm
  have hno := cutP_no (unsg L)
  have pn := @pN_none D (unsg L)
  have ps := @pN_some D (unsg L)
  obtain ⟨U, hU⟩ : ∃ U, unsg L = U := ⟨_, rfl⟩
  obtain ⟨mn, hmn⟩ : ∃ mn, minusB L = mn := ⟨_, rfl⟩
  obtain ⟨W, hW⟩ : ∃ W, (cutP U).1 = W := ⟨_, rfl⟩
  obtain ⟨B, hB⟩ : ∃ B, (cutP U).2.1 = B := ⟨_, rfl⟩
  obtain ⟨pt, hpt⟩ : ∃ pt, (cutP U).2.2 = pt := ⟨_, rfl⟩
  have s0 := @parSpec_none L D
  have s1 := @parSpec_fits L D
  have s2 := @parSpec_over L D
  rw [hU] at s0 s1 s2 c1 c2 hno pn ps hCl hUl
  rw [hW, hB] at hCl
  rw [hW, hB, hpt] at c2 pn ps
  rw [hB, hpt] at hno
  rw [hmn] at c1 s1
  by_cases hw : allD W = true
  · by_cases hb : pt = true → allD B = true
    · by_cases hl : B.length ≤ D
      · have hsome := ps hw hb hl
        obtain ⟨R, hR⟩ : ∃ R : List UInt8, R = List.replicate (D - B.length) 48 := ⟨_, rfl⟩
        obtain ⟨n, hn⟩ : ∃ n, decFrom 0 (W ++ B) * 10 ^ (D - B.length) = n := ⟨_, rfl⟩
        have hT : decFrom 0 (W ++ B ++ R) = n := by rw [decFrom_app (W ++ B) R, hR, decFrom_zeros, hn]
        have hall : (W ++ B ++ R).all isDig = true := by
          rw [List.all_append, List.all_append, hR, all_zeros, ((allD_iff W).1 hw).1]
          cases hp : pt with
          | true => rw [((allD_iff B).1 (hb hp)).1]; rfl
          | false => rw [hno hp]; rfl
        have hne : ¬ (W ++ B ++ R).length = 0 := by
          have := ((allD_iff W).1 hw).2
          simp only [List.length_append]
          omega
        have hTl : (W ++ B ++ R).length ≤ 60 := by
          simp only [List.length_append, hR, List.length_replicate]
          omega
        have eb : (⟨W.toArray⟩ : ByteArray) ++ ⟨B.toArray⟩ ++ ⟨R.toArray⟩ = ⟨(W ++ B ++ R).toArray⟩ := by rw [bapp, bapp]
        rw [hn] at hsome
        by_cases hf : n < 9223372036854775808
        · rw [s1 hsome hf]
          have c5 : ∀ W', Below w.heap.size w W' → Calls Tryd.prog 39 #[.string (⟨W.toArray⟩ ++ ⟨B.toArray⟩ ++ ⟨R.toArray⟩), .int .i64 10, .int .i64 64] W' fun e w' => e = .returned (.tuple #[.int .i64 n, .nilIface]) ∧ Below W'.heap.size W' w' := by
            intro W' _
            rw [eb]
            exact pint_ok _ W' hTl hall hne n hT hf
          cases hp : pt <;> cases hq : mn
          · exact mparse_ff L U W B mn pt D w hD hL c1 c2 (by omega) (by omega) hw hp hq hl R hR n hf c5
          · exact mparse_ft L U W B mn pt D w hD hL c1 c2 (by omega) (by omega) hw hp hq hl R hR n hf c5
          · exact mparse_tf L U W B mn pt D w hD hL c1 c2 (by omega) (by omega) hw hp hq (hb hp) hl R hR n hf c5
          · exact mparse_tt L U W B mn pt D w hD hL c1 c2 (by omega) (by omega) hw hp hq (hb hp) hl R hR n hf c5
        · rw [s2 hsome (by omega)]
          have c5 : ∀ W', Below w.heap.size w W' → Calls Tryd.prog 39 #[.string (⟨W.toArray⟩ ++ ⟨B.toArray⟩ ++ ⟨R.toArray⟩), .int .i64 10, .int .i64 64] W' fun e w' => ∃ N z, e = .returned (.tuple #[.int .i64 z, .iface 109 (.pointer (some ⟨N, 0, none⟩))]) ∧ Below W'.heap.size W' w' := by
            intro W' hb'
            rw [eb]
            exact pint_range _ W' hTl hall hne (by rw [hT]; omega) ev ((hb'.cell (show (⟨4, 0, none⟩ : Addr).block < w.heap.size from Lib.lt_of_cell hv)).trans hv) hev
          cases hp : pt <;> cases hq : mn
          · exact mparse_off L U W B mn pt D w hD hL c1 c2 (by omega) (by omega) hw hp hq hl R hR c5
          · exact mparse_oft L U W B mn pt D w hD hL c1 c2 (by omega) (by omega) hw hp hq hl R hR c5
          · exact mparse_otf L U W B mn pt D w hD hL c1 c2 (by omega) (by omega) hw hp hq (hb hp) hl R hR c5
          · exact mparse_ott L U W B mn pt D w hD hL c1 c2 (by omega) (by omega) hw hp hq (hb hp) hl R hR c5
      · rw [s0 (pn (fun h => hl h.2.2))]
        have hp : pt = true := by
          cases hp : pt with
          | true => rfl
          | false => rw [hno hp] at hl; exact absurd (Nat.zero_le _) hl
        exact mparse_no3 L U W B mn pt D w hD hL c1 c2 (by omega) (by omega) hw hp (hb hp) (by omega)
    · rw [s0 (pn (fun h => hb h.2.1))]
      have hp : pt = true := by
        cases hp : pt with
        | true => rfl
        | false => exact absurd (fun h => by rw [hp] at h; cases h) hb
      have hb' : allD B = false := by
        cases h : allD B with
        | false => rfl
        | true => exact absurd (fun _ => h) hb
      exact mparse_no2 L U W B mn pt D w hD hL c1 c2 (by omega) (by omega) hw hp hb'
  · rw [s0 (pn (fun h => hw h.1))]
    exact mparse_no1 L U W B mn pt D w hD hL c1 c2 (by omega) (by omega) (by simpa using hw)
end Go.Proofs.YtddpladmkmpoaabDoor
