/- typing, the document's: of 74. -/
import Derived.Test.YtfpbljfebjochaaGreatDoorRpB
namespace Go.Proofs.YtfpbljfebjochaaGreatDoor
open Go Go.Shelf Go.ChangeShapes Go.WideShapes Go.ChangeAt Go.RowKit Go.Maps
set_option linter.unusedVariables false
set_option maxRecDepth 100000
set_option maxHeartbeats 8000000
attribute [local go_sem ↓] ld37_is
theorem rof_any {w : World} {p : Option Addr} {n c : Nat} {T : List Int} (hn : T.length = n) (hT : Lies kI w p T) (x : Nd) : Calls Tryz.prog 129 #[x.val, .slice p n c] w fun e w' => e = .returned (.int .i64 (ntS x T)) ∧ Below w.heap.size w w' := by
  have hl := run_ld37 (w := w.alloc (.cells x.vals.toArray 61)) (b := w.heap.size) (o := 0) (x := x) (new_range w x.vals 61)
  have hr := new_range w x.vals 61
  have hB := Below.a1 w (.cells x.vals.toArray 61)
  have hlt : w.heap.size < (w.alloc (.cells x.vals.toArray 61)).heap.size := by simp
  have dL := hide (leaf_any x (w.alloc (.cells x.vals.toArray 61)))
  have HNT0 := hide (nt_of x T)
  obtain ⟨lf, hlf⟩ : ∃ v, v = leafS x := ⟨_, rfl⟩
  rw [← hlf] at dL HNT0
  obtain ⟨W1, hW1⟩ : ∃ X, X = w.alloc (.cells x.vals.toArray 61) := ⟨_, rfl⟩
  rw [← hW1] at hl hr hB hlt dL
  obtain ⟨o, l, r, f, m, s⟩ := x
  simp only at HNT0
  have e0 := hr 0 (.int .i64 o) rfl
  have e1 := hr 1 (.int .i64 l) rfl
  have e2 := hr 2 (.int .i64 r) rfl
  obtain ⟨xv, hxv⟩ : ∃ v, v = Nd.val ⟨o, l, r, f, m, s⟩ := ⟨_, rfl⟩
  rw [← hxv] at hl dL
  rw [show Nd.val ⟨o, l, r, f, m, s⟩ = .agg #[.int .i64 o, .int .i64 l, .int .i64 r, .int .i64 f, .int .i64 m, .string s] from rfl]
  have hW1' : W1 = w.alloc (.cells #[.int .i64 o, .int .i64 l, .int .i64 r, .int .i64 f, .int .i64 m, .string s] 61) := hW1
  have HT := hide hT; have HN := hide hn; have HB := hide hB; have HLT := hide hlt
  have E0 := hide e0; have E1 := hide e1; have E2 := hide e2
  clear hT hn hB hlt hr hxv hW1 hlf e0 e1 e2
  go_enter Tryz.func129, Tryz.ntmps129
  go_upto_region 1 with fail
  rw [← hW1']
  clear hW1'
  go_wp2_with fail
  refine (unhide dL).mono ?_
  rintro e X ⟨rfl, hX⟩
  have HX : Hid (Below w.heap.size w X) := (unhide HB).trans (hX.mono (unhide HB).size)
  have HXlt : Hid (w.heap.size < X.heap.size) := Nat.lt_of_lt_of_le (unhide HLT) hX.size
  have x0 : X.cell? ⟨w.heap.size, 0, none⟩ = some (.int .i64 o) := (hX.cell (p := ⟨w.heap.size, 0, none⟩) (unhide HLT)).trans (unhide E0)
  have x1 : X.cell? ⟨w.heap.size, 1, none⟩ = some (.int .i64 l) := (hX.cell (p := ⟨w.heap.size, 1, none⟩) (unhide HLT)).trans (unhide E1)
  have x2 : X.cell? ⟨w.heap.size, 2, none⟩ = some (.int .i64 r) := (hX.cell (p := ⟨w.heap.size, 2, none⟩) (unhide HLT)).trans (unhide E2)
  have HXO := hide x0
  have HLX : Hid (Lies kI X p T) := (unhide HT).below (unhide HX)
  clear hX dL hl HB HLT E0 E1 E2 HT
  by_cases h0 : lf = 0
  case neg =>
    have h0' : (lf != 0) = true := by simpa using h0
    have HF : Hid (ntS ⟨o, l, r, f, m, s⟩ T = lf) := by show _ = _; rw [unhide HNT0, if_pos h0]
    go_wp2_with fail
    go_ret
    exact ⟨by rw [unhide HF]; rfl, unhide HX⟩
  subst h0
  by_cases hl0 : l < 0
  · have HF : Hid (ntS ⟨o, l, r, f, m, s⟩ T = 0) := by show _ = _; rw [unhide HNT0, if_neg (by simp), if_pos (.inl hl0)]
    go_wp2_with fail
    go_ret
    exact ⟨by rw [unhide HF]; rfl, unhide HX⟩
  by_cases hln : l ≥ (n : Int)
  · have HF : Hid (ntS ⟨o, l, r, f, m, s⟩ T = 0) := by show _ = _; rw [unhide HNT0, if_neg (by simp), if_pos (.inr (by rw [unhide HN]; exact hln))]
    go_wp2_with fail
    go_ret
    exact ⟨by rw [unhide HF]; rfl, unhide HX⟩
  obtain ⟨i, rfl⟩ : ∃ i : Nat, l = i := ⟨l.toNat, by omega⟩
  have hin : (i : Int) < (n : Int) := by omega
  have hiT : i < T.length := by rw [unhide HN]; omega
  have hta : tat T i = T[i] := by unfold tat; rw [if_neg (by omega)]; simp [List.getD, hiT]
  obtain ⟨bT, oT, hp, hbT, hrT⟩ := (unhide HLX).2 i hiT
  have ca := hrT 0 (.int .i64 (T[i])) rfl
  rw [← hta] at ca
  simp only [kI, Nat.mul_one, Nat.add_zero] at ca
  have HNT1 : Hid (ntS ⟨o, i, r, f, m, s⟩ T = if cmpS o (tat T i) (tat T r) then 4 else tabS o (tat T i) (tat T r)) := by show _ = _; rw [unhide HNT0, if_neg (by simp), if_neg (by rw [unhide HN]; omega)]
  obtain ⟨av, hav⟩ : ∃ v, v = tat T i := ⟨_, rfl⟩
  rw [← hav] at ca HNT1
  subst hp
  clear hta hrT hav HNT0 hiT hbT
  by_cases hr0 : r < 0
  · have HNT : Hid (ntS ⟨o, i, r, f, m, s⟩ T = if cmpS o av 0 then 4 else tabS o av 0) := by have h1 := unhide HNT1; rw [tat_out (.inl hr0)] at h1; exact h1
    have hr0' : ¬ r ≥ 0 := by omega
    clear HNT1
    go_upto_region 10 with fail
    obtain ⟨bv, hbv⟩ : ∃ v : Int, v = 0 := ⟨_, rfl⟩
    clear hbv hr0' x1 x2 ca bv
    have dC := hide (cmp_any o av 0 X)
    obtain ⟨cv, hcv⟩ : ∃ v, v = cmpS o av 0 := ⟨_, rfl⟩
    rw [← hcv] at dC
    have HCV := hide hcv
    clear hcv
    go_wp2_with fail
    refine (unhide dC).mono ?_
    rintro e w2 ⟨rfl, hw2⟩
    rw [hw2]
    clear hw2 w2 dC
    cases cv with
    | true =>
      have HF : Hid (ntS ⟨o, i, r, f, m, s⟩ T = 4) := (unhide HNT).trans (by rw [← unhide HCV]; rfl)
      go_wp2_with fail
      go_ret
      exact ⟨by rw [unhide HF]; rfl, unhide HX⟩
    | false =>
      have HF : Hid (ntS ⟨o, i, r, f, m, s⟩ T = tabS o av 0) := (unhide HNT).trans (by rw [← unhide HCV]; rfl)
      have dT := hide (table_any X)
      obtain ⟨Y, hY⟩ : ∃ Y, Y = X.alloc tbO := ⟨_, rfl⟩
      obtain ⟨g, hg⟩ : ∃ g, g = X.heap.size := ⟨_, rfl⟩
      have HTC : Hid (∀ i, Y.cell? ⟨g, i, none⟩ = tbC[i]?) := fun i => by rw [hY, hg]; exact tb_cell X i
      have hc0 : Y.cell? ⟨w.heap.size, 0, none⟩ = some (.int .i64 o) := by rw [hY, World.cell?_alloc_lt _ _ _ (unhide HXlt)]; exact unhide HXO
      have HY : Hid (Below w.heap.size w Y) := by rw [hY]; exact (unhide HX).alloc (unhide HX).size _
      rw [← hY, ← hg] at dT
      clear hY hg
      go_wp2_with fail
      refine (unhide dT).mono ?_
      rintro e w2 ⟨rfl, hw2⟩
      rw [hw2]
      clear hw2 w2 dT
      go_wp2_with fail
      go_loopw [10] (fun v wr => ∃ (k : Nat), v = .int .i64 k ∧ k ≤ 18 ∧ Hid ((∃ mm, wr = Y.drewN mm) ∧ ∀ j, j < k → tP o av 0 (tb j) = false)) (fun v _ => 18 - (intOf v).toNat)
      case atStart => exact ⟨0, rfl, by omega, ⟨0, rfl⟩, fun j h => by omega⟩
      case round =>
        obtain ⟨k, rfl, hk, hrel⟩ := hrel
        obtain ⟨mm, hwr⟩ := (unhide hrel).1
        rw [hwr]
        have HJ := hide (unhide hrel).2
        clear hrel hwr wr
        by_cases hlt : k < 18
        · obtain ⟨c0, c1, c2, c3⟩ := tbC_at k hlt
          have c0 := (unhide HTC _).trans c0
          have c1 := (unhide HTC _).trans c1
          have c2 := (unhide HTC _).trans c2
          have c3 := (unhide HTC _).trans c3
          simp only [Nat.add_zero] at c0
          have hlt' : (k : Int) < 18 := by omega
          have hk0 : ¬ (k : Int) < 0 := by omega
          have hf : Hid (tP o av 0 (tb k) = true → tabS o av 0 = (tb k).2.2.2) := fun h => tab_hit hlt h (unhide HJ)
          have hn : Hid (tP o av 0 (tb k) = false → ∀ j, j < k + 1 → tP o av 0 (tb j) = false) := fun h j hj => by
            by_cases e : j = k
            · subst e; exact h
            · exact unhide HJ j (by omega)
          have hh : Hid (tP o av 0 (tb k) = ((tb k).1 == o && ((tb k).2.1 == av && ((tb k).2.2.1 == 0 || (tb k).2.2.1 == 0)))) := rfl
          obtain ⟨o', ho⟩ : ∃ v, v = (tb k).1 := ⟨_, rfl⟩
          obtain ⟨a', ha⟩ : ∃ v, v = (tb k).2.1 := ⟨_, rfl⟩
          obtain ⟨b', hb⟩ : ∃ v, v = (tb k).2.2.1 := ⟨_, rfl⟩
          obtain ⟨g', hg⟩ : ∃ v, v = (tb k).2.2.2 := ⟨_, rfl⟩
          rw [← ho] at c0 hh
          rw [← ha] at c1 hh
          rw [← hb] at c2 hh
          rw [← hg] at c3 hf
          clear ho ha hb hg
          by_cases e1 : o' = o
          · by_cases e2 : a' = av
            · by_cases e3 : b' = 0
              · have hfin := hide (unhide hf (by rw [unhide hh, e1, e2, e3]; simp))
                clear hf hn hh
                subst e1 e2 e3
                go_wp2_with fail
                go_quiet (fail)
                go_wp2_with fail
                go_ret
                exact ⟨by rw [unhide HF, unhide hfin]; rfl, below_drewN (unhide HY) _⟩
              · have e3' := beqF e3
                by_cases e4 : b' = 0
                · exact absurd e4 e3
                · have hnn := hide (unhide hn (by rw [unhide hh, e3']; simp))
                  clear hf hn hh
                  subst e1 e2
                  go_wp2_with fail
                  go_quiet (fail)
                  go_wp2_with fail
                  exact ⟨⟨k + 1, by go_num, by omega, ⟨_, rfl⟩, unhide hnn⟩, by simp [intOf]; omega⟩
            · have e2' := beqF e2
              have hnn := hide (unhide hn (by rw [unhide hh, e2']; simp))
              clear hf hn hh
              subst e1
              go_wp2_with fail
              go_quiet (fail)
              go_wp2_with fail
              exact ⟨⟨k + 1, by go_num, by omega, ⟨_, rfl⟩, unhide hnn⟩, by simp [intOf]; omega⟩
          · have e1' := beqF e1
            have hnn := hide (unhide hn (by rw [unhide hh, e1']; simp))
            clear hf hn hh
            go_wp2_with fail
            go_quiet (fail)
            go_wp2_with fail
            exact ⟨⟨k + 1, by go_num, by omega, ⟨_, rfl⟩, unhide hnn⟩, by simp [intOf]; omega⟩
        · have hkn : k = 18 := by omega
          subst hkn
          have hfin := hide (tab_none (unhide HJ))
          go_wp2_with fail
          go_ret
          exact ⟨by rw [unhide HF, unhide hfin]; rfl, below_drewN (unhide HY) _⟩
  by_cases hrn : r < (n : Int)
  · obtain ⟨j, rfl⟩ : ∃ j : Nat, r = j := ⟨r.toNat, by omega⟩
    have hjT : j < T.length := by rw [unhide HN]; omega
    have htb : tat T j = T[j] := by unfold tat; rw [if_neg (by omega)]; simp [List.getD, hjT]
    obtain ⟨bU, oU, hp, hbU, hrU⟩ := (unhide HLX).2 j hjT
    injection hp with hp
    injection hp with hp1 hp2
    subst hp1 hp2
    have cb := hrU 0 (.int .i64 (T[j])) rfl
    rw [← htb] at cb
    simp only [kI, Nat.mul_one, Nat.add_zero] at cb
    have HNT := HNT1
    obtain ⟨bv, hbv⟩ : ∃ v, v = tat T j := ⟨_, rfl⟩
    rw [← hbv] at cb HNT
    have hj0 : (j : Int) ≥ 0 := by omega
    clear htb hrU hbv HNT1 hjT
    go_upto_region 10 with fail
    clear hj0 x1 x2 ca cb
    have dC := hide (cmp_any o av bv X)
    obtain ⟨cv, hcv⟩ : ∃ v, v = cmpS o av bv := ⟨_, rfl⟩
    rw [← hcv] at dC
    have HCV := hide hcv
    clear hcv
    go_wp2_with fail
    refine (unhide dC).mono ?_
    rintro e w2 ⟨rfl, hw2⟩
    rw [hw2]
    clear hw2 w2 dC
    cases cv with
    | true =>
      have HF : Hid (ntS ⟨o, i, j, f, m, s⟩ T = 4) := (unhide HNT).trans (by rw [← unhide HCV]; rfl)
      go_wp2_with fail
      go_ret
      exact ⟨by rw [unhide HF]; rfl, unhide HX⟩
    | false =>
      have HF : Hid (ntS ⟨o, i, j, f, m, s⟩ T = tabS o av bv) := (unhide HNT).trans (by rw [← unhide HCV]; rfl)
      have dT := hide (table_any X)
      obtain ⟨Y, hY⟩ : ∃ Y, Y = X.alloc tbO := ⟨_, rfl⟩
      obtain ⟨g, hg⟩ : ∃ g, g = X.heap.size := ⟨_, rfl⟩
      have HTC : Hid (∀ i, Y.cell? ⟨g, i, none⟩ = tbC[i]?) := fun i => by rw [hY, hg]; exact tb_cell X i
      have hc0 : Y.cell? ⟨w.heap.size, 0, none⟩ = some (.int .i64 o) := by rw [hY, World.cell?_alloc_lt _ _ _ (unhide HXlt)]; exact unhide HXO
      have HY : Hid (Below w.heap.size w Y) := by rw [hY]; exact (unhide HX).alloc (unhide HX).size _
      rw [← hY, ← hg] at dT
      clear hY hg
      go_wp2_with fail
      refine (unhide dT).mono ?_
      rintro e w2 ⟨rfl, hw2⟩
      rw [hw2]
      clear hw2 w2 dT
      go_wp2_with fail
      go_loopw [10] (fun v wr => ∃ (k : Nat), v = .int .i64 k ∧ k ≤ 18 ∧ Hid ((∃ mm, wr = Y.drewN mm) ∧ ∀ j, j < k → tP o av bv (tb j) = false)) (fun v _ => 18 - (intOf v).toNat)
      case atStart => exact ⟨0, rfl, by omega, ⟨0, rfl⟩, fun j h => by omega⟩
      case round =>
        obtain ⟨k, rfl, hk, hrel⟩ := hrel
        obtain ⟨mm, hwr⟩ := (unhide hrel).1
        rw [hwr]
        have HJ := hide (unhide hrel).2
        clear hrel hwr wr
        by_cases hlt : k < 18
        · obtain ⟨c0, c1, c2, c3⟩ := tbC_at k hlt
          have c0 := (unhide HTC _).trans c0
          have c1 := (unhide HTC _).trans c1
          have c2 := (unhide HTC _).trans c2
          have c3 := (unhide HTC _).trans c3
          simp only [Nat.add_zero] at c0
          have hlt' : (k : Int) < 18 := by omega
          have hk0 : ¬ (k : Int) < 0 := by omega
          have hf : Hid (tP o av bv (tb k) = true → tabS o av bv = (tb k).2.2.2) := fun h => tab_hit hlt h (unhide HJ)
          have hn : Hid (tP o av bv (tb k) = false → ∀ j, j < k + 1 → tP o av bv (tb j) = false) := fun h j hj => by
            by_cases e : j = k
            · subst e; exact h
            · exact unhide HJ j (by omega)
          have hh : Hid (tP o av bv (tb k) = ((tb k).1 == o && ((tb k).2.1 == av && ((tb k).2.2.1 == 0 || (tb k).2.2.1 == bv)))) := rfl
          obtain ⟨o', ho⟩ : ∃ v, v = (tb k).1 := ⟨_, rfl⟩
          obtain ⟨a', ha⟩ : ∃ v, v = (tb k).2.1 := ⟨_, rfl⟩
          obtain ⟨b', hb⟩ : ∃ v, v = (tb k).2.2.1 := ⟨_, rfl⟩
          obtain ⟨g', hg⟩ : ∃ v, v = (tb k).2.2.2 := ⟨_, rfl⟩
          rw [← ho] at c0 hh
          rw [← ha] at c1 hh
          rw [← hb] at c2 hh
          rw [← hg] at c3 hf
          clear ho ha hb hg
          by_cases e1 : o' = o
          · by_cases e2 : a' = av
            · by_cases e3 : b' = 0
              · have hfin := hide (unhide hf (by rw [unhide hh, e1, e2, e3]; simp))
                clear hf hn hh
                subst e1 e2 e3
                go_wp2_with fail
                go_quiet (fail)
                go_wp2_with fail
                go_ret
                exact ⟨by rw [unhide HF, unhide hfin]; rfl, below_drewN (unhide HY) _⟩
              · have e3' := beqF e3
                by_cases e4 : b' = bv
                · have hfin := hide (unhide hf (by rw [unhide hh, e1, e2, e4]; simp))
                  clear hf hn hh
                  subst e1 e2 e4
                  go_wp2_with fail
                  go_quiet (fail)
                  go_wp2_with fail
                  go_ret
                  exact ⟨by rw [unhide HF, unhide hfin]; rfl, below_drewN (unhide HY) _⟩
                · have e4' := beqF e4
                  have hnn := hide (unhide hn (by rw [unhide hh, e3', e4']; simp))
                  clear hf hn hh
                  subst e1 e2
                  go_wp2_with fail
                  go_quiet (fail)
                  go_wp2_with fail
                  exact ⟨⟨k + 1, by go_num, by omega, ⟨_, rfl⟩, unhide hnn⟩, by simp [intOf]; omega⟩
            · have e2' := beqF e2
              have hnn := hide (unhide hn (by rw [unhide hh, e2']; simp))
              clear hf hn hh
              subst e1
              go_wp2_with fail
              go_quiet (fail)
              go_wp2_with fail
              exact ⟨⟨k + 1, by go_num, by omega, ⟨_, rfl⟩, unhide hnn⟩, by simp [intOf]; omega⟩
          · have e1' := beqF e1
            have hnn := hide (unhide hn (by rw [unhide hh, e1']; simp))
            clear hf hn hh
            go_wp2_with fail
            go_quiet (fail)
            go_wp2_with fail
            exact ⟨⟨k + 1, by go_num, by omega, ⟨_, rfl⟩, unhide hnn⟩, by simp [intOf]; omega⟩
        · have hkn : k = 18 := by omega
          subst hkn
          have hfin := hide (tab_none (unhide HJ))
          go_wp2_with fail
          go_ret
          exact ⟨by rw [unhide HF, unhide hfin]; rfl, below_drewN (unhide HY) _⟩
  · have HNT : Hid (ntS ⟨o, i, r, f, m, s⟩ T = if cmpS o av 0 then 4 else tabS o av 0) := by have h1 := unhide HNT1; rw [tat_out (.inr (by rw [unhide HN]; omega))] at h1; exact h1
    have hr1 : r ≥ 0 := by omega
    clear HNT1
    go_upto_region 10 with fail
    clear hr1 x1 x2 ca
    have dC := hide (cmp_any o av 0 X)
    obtain ⟨cv, hcv⟩ : ∃ v, v = cmpS o av 0 := ⟨_, rfl⟩
    rw [← hcv] at dC
    have HCV := hide hcv
    clear hcv
    go_wp2_with fail
    refine (unhide dC).mono ?_
    rintro e w2 ⟨rfl, hw2⟩
    rw [hw2]
    clear hw2 w2 dC
    cases cv with
    | true =>
      have HF : Hid (ntS ⟨o, i, r, f, m, s⟩ T = 4) := (unhide HNT).trans (by rw [← unhide HCV]; rfl)
      go_wp2_with fail
      go_ret
      exact ⟨by rw [unhide HF]; rfl, unhide HX⟩
    | false =>
      have HF : Hid (ntS ⟨o, i, r, f, m, s⟩ T = tabS o av 0) := (unhide HNT).trans (by rw [← unhide HCV]; rfl)
      have dT := hide (table_any X)
      obtain ⟨Y, hY⟩ : ∃ Y, Y = X.alloc tbO := ⟨_, rfl⟩
      obtain ⟨g, hg⟩ : ∃ g, g = X.heap.size := ⟨_, rfl⟩
      have HTC : Hid (∀ i, Y.cell? ⟨g, i, none⟩ = tbC[i]?) := fun i => by rw [hY, hg]; exact tb_cell X i
      have hc0 : Y.cell? ⟨w.heap.size, 0, none⟩ = some (.int .i64 o) := by rw [hY, World.cell?_alloc_lt _ _ _ (unhide HXlt)]; exact unhide HXO
      have HY : Hid (Below w.heap.size w Y) := by rw [hY]; exact (unhide HX).alloc (unhide HX).size _
      rw [← hY, ← hg] at dT
      clear hY hg
      go_wp2_with fail
      refine (unhide dT).mono ?_
      rintro e w2 ⟨rfl, hw2⟩
      rw [hw2]
      clear hw2 w2 dT
      go_wp2_with fail
      go_loopw [10] (fun v wr => ∃ (k : Nat), v = .int .i64 k ∧ k ≤ 18 ∧ Hid ((∃ mm, wr = Y.drewN mm) ∧ ∀ j, j < k → tP o av 0 (tb j) = false)) (fun v _ => 18 - (intOf v).toNat)
      case atStart => exact ⟨0, rfl, by omega, ⟨0, rfl⟩, fun j h => by omega⟩
      case round =>
        obtain ⟨k, rfl, hk, hrel⟩ := hrel
        obtain ⟨mm, hwr⟩ := (unhide hrel).1
        rw [hwr]
        have HJ := hide (unhide hrel).2
        clear hrel hwr wr
        by_cases hlt : k < 18
        · obtain ⟨c0, c1, c2, c3⟩ := tbC_at k hlt
          have c0 := (unhide HTC _).trans c0
          have c1 := (unhide HTC _).trans c1
          have c2 := (unhide HTC _).trans c2
          have c3 := (unhide HTC _).trans c3
          simp only [Nat.add_zero] at c0
          have hlt' : (k : Int) < 18 := by omega
          have hk0 : ¬ (k : Int) < 0 := by omega
          have hf : Hid (tP o av 0 (tb k) = true → tabS o av 0 = (tb k).2.2.2) := fun h => tab_hit hlt h (unhide HJ)
          have hn : Hid (tP o av 0 (tb k) = false → ∀ j, j < k + 1 → tP o av 0 (tb j) = false) := fun h j hj => by
            by_cases e : j = k
            · subst e; exact h
            · exact unhide HJ j (by omega)
          have hh : Hid (tP o av 0 (tb k) = ((tb k).1 == o && ((tb k).2.1 == av && ((tb k).2.2.1 == 0 || (tb k).2.2.1 == 0)))) := rfl
          obtain ⟨o', ho⟩ : ∃ v, v = (tb k).1 := ⟨_, rfl⟩
          obtain ⟨a', ha⟩ : ∃ v, v = (tb k).2.1 := ⟨_, rfl⟩
          obtain ⟨b', hb⟩ : ∃ v, v = (tb k).2.2.1 := ⟨_, rfl⟩
          obtain ⟨g', hg⟩ : ∃ v, v = (tb k).2.2.2 := ⟨_, rfl⟩
          rw [← ho] at c0 hh
          rw [← ha] at c1 hh
          rw [← hb] at c2 hh
          rw [← hg] at c3 hf
          clear ho ha hb hg
          by_cases e1 : o' = o
          · by_cases e2 : a' = av
            · by_cases e3 : b' = 0
              · have hfin := hide (unhide hf (by rw [unhide hh, e1, e2, e3]; simp))
                clear hf hn hh
                subst e1 e2 e3
                go_wp2_with fail
                go_quiet (fail)
                go_wp2_with fail
                go_ret
                exact ⟨by rw [unhide HF, unhide hfin]; rfl, below_drewN (unhide HY) _⟩
              · have e3' := beqF e3
                by_cases e4 : b' = 0
                · exact absurd e4 e3
                · have hnn := hide (unhide hn (by rw [unhide hh, e3']; simp))
                  clear hf hn hh
                  subst e1 e2
                  go_wp2_with fail
                  go_quiet (fail)
                  go_wp2_with fail
                  exact ⟨⟨k + 1, by go_num, by omega, ⟨_, rfl⟩, unhide hnn⟩, by simp [intOf]; omega⟩
            · have e2' := beqF e2
              have hnn := hide (unhide hn (by rw [unhide hh, e2']; simp))
              clear hf hn hh
              subst e1
              go_wp2_with fail
              go_quiet (fail)
              go_wp2_with fail
              exact ⟨⟨k + 1, by go_num, by omega, ⟨_, rfl⟩, unhide hnn⟩, by simp [intOf]; omega⟩
          · have e1' := beqF e1
            have hnn := hide (unhide hn (by rw [unhide hh, e1']; simp))
            clear hf hn hh
            go_wp2_with fail
            go_quiet (fail)
            go_wp2_with fail
            exact ⟨⟨k + 1, by go_num, by omega, ⟨_, rfl⟩, unhide hnn⟩, by simp [intOf]; omega⟩
        · have hkn : k = 18 := by omega
          subst hkn
          have hfin := hide (tab_none (unhide HJ))
          go_wp2_with fail
          go_ret
          exact ⟨by rw [unhide HF, unhide hfin]; rfl, below_drewN (unhide HY) _⟩
end Go.Proofs.YtfpbljfebjochaaGreatDoor
