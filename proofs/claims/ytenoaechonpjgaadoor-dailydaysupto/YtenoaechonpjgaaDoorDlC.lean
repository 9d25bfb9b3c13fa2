/- daily: Clone (43), cutDay (31). -/
import Derived.Test.YtenoaechonpjgaaDoorDlB
namespace Go.Proofs.YtenoaechonpjgaaDoor
open Go Go.Shelf Go.ChangeShapes Go.WideShapes Go.ChangeAt Go.RowKit Go.Maps Go.Sort
set_option linter.unusedVariables false
variable {α : Type} {K : Kd α}
theorem own_none0 (W : World) (e : TypeId) (s : Nat) (o : Obj) (ho : o = .cells #[] e (0, 0)) : (W.alloc o).ownsRow W.heap.size e s (.slice (some ⟨W.heap.size, 0, none⟩) 0 0) 0 [] := by
  subst ho
  refine ⟨by simp, .inr ⟨W.heap.size, 0, #[], rfl, Nat.le_refl _, ?_, Nat.le_refl _, by unfold maxLen; omega, by simp, by simp⟩⟩
  exact heap_alloc_new _ _
theorem run_eql_slice_nil53 (ad : Addr) (n c : Nat) (w : World) : (binOp .eql 53 (.slice (some ad) n c) (.slice none 0 0)).run Tryd.prog w = .ok (.bool false) w := by
  simp only [binOp]
  simp [run_equal_slice_nil w 53 74 (some ad) n c Tryd.underlying53]
set_option maxRecDepth 100000 in
theorem clone_any {W : World} {ad : Addr} {c n : Nat} {M : List (Int × Int)} (hn : M.length = n) (hl : n ≤ 1099511627776) (hM : Lies kT W (some ad) M) :
    Calls Tryd.prog 43 #[.slice (some ad) n c] W fun e w' => ∃ g c', e = .returned (.slice (some ⟨g, 0, none⟩) n c') ∧ w'.ownsRow W.heap.size kT.e kT.s (.slice (some ⟨g, 0, none⟩) n c') n (kT.flat M) ∧ Below W.heap.size W w' := by
  obtain ⟨O, hO⟩ : ∃ O, O = Obj.cells #[] 74 (0, 0) := ⟨_, rfl⟩
  have h0 := own_none0 W 74 2 O hO
  have hb0 : Below W.heap.size W (W.alloc O) := bal (Below.refl _ _) O
  obtain ⟨p', c', w', hr, ho, hb, _, hat⟩ := run_app kT_ok (L := []) (M := M) 53 h0 (by simp) (some ad) c (fun h => by cases h) (hM.below hb0) (by omega)
  rw [hn, Nat.zero_add] at hr ho hat
  obtain ⟨g, hp'⟩ : ∃ g, p' = some ⟨g, 0, none⟩ := by
    rcases hat with h | h
    · obtain ⟨p2, c2, e, _, h3⟩ := row_slice ho
      cases e
      cases p' with
      | none => cases h
      | some a =>
        obtain ⟨h4, h5, _⟩ := h3 a rfl
        obtain ⟨b, o, s⟩ := a
        simp only at h4 h5
        subst h4 h5
        exact ⟨b, rfl⟩
    · obtain ⟨p2, c2, e, _, h3⟩ := row_slice ho
      cases e
      cases p' with
      | none => cases h
      | some a =>
        obtain ⟨h4, h5, _⟩ := h3 a rfl
        obtain ⟨b, o, s⟩ := a
        simp only at h4 h5
        subst h4 h5
        exact ⟨b, rfl⟩
  subst hp'
  have HR := hide hr; have HF := hide (And.intro ho (hb0.trans hb))
  clear hr ho hb hat h0 hb0 hM
  subst hO
  have hnil : (binOp .eql 53 (.slice (some ad) n c) (.slice none 0 0)).run Tryd.prog W = .ok (.bool false) W := run_eql_slice_nil53 ad n c W
  go_enter Tryd.func43, Tryd.ntmps43
  go_wp2_with (at_builtin; refine wpList_append_run rfl _ _ 53 rfl _ _ _ _ rfl rfl (unhide HR) ?_)
  go_ret
  exact ⟨g, c', rfl, by simpa using (unhide HF).1, (unhide HF).2⟩
/-- what is left of a list behind its first element -/
theorem Lies.tail {W : World} {b off c n : Nat} {x : α} {L : List α} (h : Lies K W (some ⟨b, off, none⟩) (x :: L)) (hn : L.length + 1 = n) (hc : n ≤ c) : Lies K W (if c = 1 then some ⟨b, off, none⟩ else some ⟨b, off + 1 * K.s, none⟩) L := by
  by_cases h1 : c = 1
  · rw [if_pos h1]
    have : L = [] := List.eq_nil_of_length_eq_zero (by omega)
    subst this
    exact Lies.nil _ _
  · rw [if_neg h1]
    have := h.part 1 L.length
    simpa using this
set_option maxRecDepth 100000 in
set_option maxHeartbeats 4000000 in
theorem cut_any {W : World} {b off c n : Nat} {A : List (Int × Int)} (hn : A.length = n) (hn1 : 0 < n) (hnc : n ≤ c) (hl : n ≤ 1099511627776) (hA : Lies kT W (some ⟨b, off, none⟩) A) (d : Int) (hd : ∀ x, A.head? = some x → x.1 = d) :
    Calls Tryd.prog 31 #[.slice (some ⟨b, off, none⟩) n c] W fun e w' => ∃ k p m c2 ps cs, e = .returned (.tuple #[.slice ps k cs, .slice p m c2]) ∧ 1 ≤ k ∧ k + m = n ∧ m ≤ c2 ∧ (∀ x ∈ A.take k, x.1 = d) ∧ (∀ x, (A.drop k).head? = some x → x.1 ≠ d) ∧
      w'.ownsRow W.heap.size 2 1 (.slice ps k cs) k (kI.flat ((A.take k).map (·.2))) ∧ (∀ W0, Lies kT W0 (some ⟨b, off, none⟩) A → Lies kT W0 p (A.drop k)) ∧ Below W.heap.size W w' := by
  obtain ⟨x0, A', rfl⟩ : ∃ x A', A = x :: A' := by
    cases A with
    | nil => simp at hn; omega
    | cons x A' => exact ⟨x, A', rfl⟩
  have hx0 : x0.1 = d := hd x0 rfl
  obtain ⟨b0, off0, e0, _, hr0⟩ := hA.2 0 (by simp)
  cases e0
  have hc0 : W.cell? ⟨b, off, none⟩ = some (.int .i64 d) := by
    have := hr0 0 (.int .i64 x0.1) rfl
    rw [hx0] at this
    simpa using this
  have HA := hide hA; have HN := hide hn
  clear hd hr0 hA hn
  go_enter Tryd.func31, Tryd.ntmps31
  go_wp2_with fail
  go_loopw [0, 2] (fun v0 v2 wr => ∃ (k m c2 cs : Nat) (p ps : Option Addr), v0 = .slice p m c2 ∧ v2 = .slice ps k cs ∧ k + m = n ∧ m ≤ c2 ∧ Hid ((p = none → m = 0) ∧ (∀ x ∈ (x0 :: A').take k, x.1 = d) ∧ wr.ownsRow W.heap.size 2 1 (.slice ps k cs) k (kI.flat (((x0 :: A').take k).map (·.2))) ∧ (∀ W0, Lies kT W0 (some ⟨b, off, none⟩) (x0 :: A') → Lies kT W0 p ((x0 :: A').drop k)) ∧ Below W.heap.size W wr)) (fun v0 _ _ => match v0 with | .slice _ m _ => m | _ => 0)
  case atStart => exact ⟨0, n, c, 0, _, none, rfl, rfl, by omega, hnc, (fun h => by cases h), (fun x h => by simp at h), World.ownsRow_nil _ _ _ _, (fun W0 h => h), Below.refl _ _⟩
  case round =>
    obtain ⟨k, m, c2, cs, p, ps, rfl, rfl, hkm, hmc, hrel⟩ := hrel
    obtain ⟨hpn, hall, hown, htr, hbel⟩ := unhide hrel
    have hlies := htr W (unhide HA)
    have hlen : ((x0 :: A').drop k).length = m := by
      have := unhide HN
      rw [List.length_drop]
      omega
    have hfin : Hid ((∀ x, ((x0 :: A').drop k).head? = some x → x.1 ≠ d) → 1 ≤ k → ∃ k' p' m' c2' ps' cs', Ending.returned (.tuple #[.slice ps k cs, .slice p m c2]) = .returned (.tuple #[.slice ps' k' cs', .slice p' m' c2']) ∧ 1 ≤ k' ∧ k' + m' = n ∧ m' ≤ c2' ∧ (∀ x ∈ (x0 :: A').take k', x.1 = d) ∧ (∀ x, ((x0 :: A').drop k').head? = some x → x.1 ≠ d) ∧
      wr.ownsRow W.heap.size 2 1 (.slice ps' k' cs') k' (kI.flat (((x0 :: A').take k').map (·.2))) ∧ (∀ W0, Lies kT W0 (some ⟨b, off, none⟩) (x0 :: A') → Lies kT W0 p' ((x0 :: A').drop k')) ∧ Below W.heap.size W wr) := fun h h1 => ⟨k, p, m, c2, ps, cs, rfl, h1, hkm, hmc, hall, h, hown, htr, hbel⟩
    by_cases hm : 0 < m
    · obtain ⟨x, L, hxL⟩ : ∃ x L, (x0 :: A').drop k = x :: L := by
        cases hq : (x0 :: A').drop k with
        | nil => rw [hq] at hlen; simp at hlen; omega
        | cons x L => exact ⟨x, L, rfl⟩
      rw [hxL] at hlies hlen
      obtain ⟨b2, off2, hp, hlt2, hr2⟩ := hlies.2 0 (by simp)
      subst hp
      have q0 : wr.cell? ⟨b2, off2, none⟩ = some (.int .i64 x.1) := (hbel.cell (p := ⟨b2, off2, none⟩) hlt2).trans (by simpa using hr2 0 (.int .i64 x.1) rfl)
      have q1 : wr.cell? ⟨b2, off2 + 1, none⟩ = some (.int .i64 x.2) := (hbel.cell (p := ⟨b2, off2 + 1, none⟩) hlt2).trans (by simpa using hr2 1 (.int .i64 x.2) rfl)
      obtain ⟨X, hX⟩ : ∃ X, X = x.1 := ⟨_, rfl⟩
      obtain ⟨Y, hY⟩ : ∃ Y, Y = x.2 := ⟨_, rfl⟩
      rw [← hX] at q0
      rw [← hY] at q1
      by_cases hxd : X = d
      · subst hxd
        have hkA : k < (x0 :: A').length := by have := unhide HN; omega
        have hget : (x0 :: A')[k] = x := by
          have h2 := List.drop_eq_getElem_cons hkA
          rw [hxL] at h2
          exact (List.cons.inj h2).1.symm
        have hL : (x0 :: A').drop (k + 1) = L := by
          have h2 := List.drop_eq_getElem_cons hkA
          rw [hxL] at h2
          exact (List.cons.inj h2).2.symm
        have htk : (x0 :: A').take (k + 1) = (x0 :: A').take k ++ [x] := by
          rw [List.take_succ_eq_append_getElem hkA, hget]
        have hbA : Below W.heap.size W (wr.alloc (.cells #[.int .i64 Y] 2)) := hbel.alloc hbel.size _
        obtain ⟨p', c', w', hr, ho, hb, _, _⟩ := run_app kI_ok (L := ((x0 :: A').take k).map (·.2)) (M := [Y]) 77 (hown.alloc (.cells #[.int .i64 Y] 2)) hbA.size (some ⟨wr.heap.size, 0, none⟩) 1 (fun h => by cases h) (one_lies wr Y 2 #[.int .i64 Y] rfl) (by simp; omega)
        rw [List.length_singleton] at hr ho
        have htl : ∀ W0, Lies kT W0 (some ⟨b, off, none⟩) (x0 :: A') → Lies kT W0 (if c2 = 1 then some ⟨b2, off2, none⟩ else some ⟨b2, off2 + 2, none⟩) L := fun W0 h0 => by
          have h1 := htr W0 h0
          rw [hxL] at h1
          exact h1.tail (c := c2) (n := m) (by simpa using hlen) hmc
        have hb' : Below W.heap.size W w' := hbA.trans hb
        have HFIN : Hid ((∀ y ∈ (x0 :: A').take (k + 1), y.1 = X) ∧ w'.ownsRow W.heap.size 2 1 (.slice p' (k + 1) c') (k + 1) (kI.flat (((x0 :: A').take (k + 1)).map (·.2))) ∧ (∀ W0, Lies kT W0 (some ⟨b, off, none⟩) (x0 :: A') → Lies kT W0 (if c2 = 1 then some ⟨b2, off2, none⟩ else some ⟨b2, off2 + 2, none⟩) ((x0 :: A').drop (k + 1))) ∧ Below W.heap.size W w') := by
          refine ⟨fun y hy => ?_, ?_, by rw [hL]; exact htl, hb'⟩
          · rw [htk] at hy
            rcases List.mem_append.1 hy with hy | hy
            · exact hall y hy
            · rw [List.mem_singleton] at hy
              subst hy
              exact hX.symm
          · rw [htk, List.map_append]
            show w'.ownsRow W.heap.size 2 1 _ (k + 1) (kI.flat (((x0 :: A').take k).map (·.2) ++ [x.2]))
            rw [← hY]
            exact ho
        have HR := hide hr
        clear hr ho hb hb' hbA htl htr hlies hown hall hbel hr2 hfin hrel hpn hX hY hget hL htk hxL
        go_wp2_with (at_builtin; refine wpList_append_run rfl _ _ 77 rfl _ _ _ _ rfl rfl (unhide HR) ?_)
        refine ⟨⟨k + 1, m - 1, c2 - 1, c', _, _, rfl, rfl, by omega, by omega, ?_⟩, by simp; omega⟩
        obtain ⟨f1, f2, f3, f4⟩ := unhide HFIN
        exact ⟨fun h => by by_cases hc : c2 = 1 <;> simp [hc] at h, f1, f2, f3, f4⟩
      · have hk1 : 1 ≤ k := by
          by_cases h : k = 0
          · subst h
            exfalso
            apply hxd
            rw [List.drop_zero] at hxL
            rw [hX, ← (List.cons.inj hxL).1, hx0]
          · omega
        have hex := unhide hfin (fun y hy => by rw [hxL] at hy; rw [← Option.some.inj hy, ← hX]; exact hxd) hk1
        have HEX := hide hex
        clear hex hfin htr hlies hown hall hbel hr2 hrel hpn hX hY hxL
        go_wp2_with fail
        go_ret2
        exact unhide HEX
    · have hk1 : 1 ≤ k := by omega
      have hex := unhide hfin (fun y hy => by
        have : (x0 :: A').drop k = [] := List.eq_nil_of_length_eq_zero (by omega)
        rw [this] at hy
        cases hy) hk1
      have HEX := hide hex
      clear hex hfin htr hlies hown hall hbel hrel hpn hlen
      go_wp2_with fail
      go_ret2
      exact unhide HEX
end Go.Proofs.YtenoaechonpjgaaDoor
