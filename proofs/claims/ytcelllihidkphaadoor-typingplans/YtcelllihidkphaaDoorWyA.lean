/- typing: the law's all 20; what holds of Plan. -/
import Derived.Test.YtcelllihidkphaaDoorPlA
import Derived.Test.YtcelllihidkphaaDoorMoA
namespace Go.Proofs.YtcelllihidkphaaDoor
open Go Go.Shelf Go.ChangeShapes Go.WideShapes Go.ChangeAt Go.RowKit Go.Maps
set_option linter.unusedVariables false
set_option maxRecDepth 100000
set_option maxHeartbeats 8000000
attribute [local go_sem ↓] ld32_is ld45_is st32_is
theorem all_any {W : World} {q : Qy} {a : Qa} (hq : QIn W q a) (hok : okQ q = true) : Calls Tryd.prog 20 #[qV q a] W fun e w' => e = .returned (.bool (q.sh.all (sumS q.nodes))) ∧ Below W.heap.size W w' := by
  obtain ⟨nN, hnN⟩ : ∃ n, n = q.nodes.length := ⟨_, rfl⟩
  obtain ⟨nS, hnS⟩ : ∃ n, n = q.sh.length := ⟨_, rfl⟩
  obtain ⟨W1, hW1⟩ : ∃ X, X = W.alloc (.cells (qC q a).toArray 32) := ⟨_, rfl⟩
  have hB1 : Below W.heap.size W W1 := by rw [hW1]; exact Below.a1 W _
  have hlt : W.heap.size < W1.heap.size := by rw [hW1]; simp
  have hb1 : W1.heap[W.heap.size]? = some (.cells (qC q a).toArray 32 (0, 0)) := by rw [hW1]; exact heap_new _ _
  have HC : Hid (∀ X, Below W1.heap.size W1 X → X.heap[W.heap.size]? = some (.cells (qC q a).toArray 32 (0, 0))) := fun X h => (h.block _ hlt).trans hb1
  have hW1' : W1 = W.alloc (.cells #[.slice a.pN nN a.cN, .int .i64 q.wh, .slice a.pB q.by'.length a.cB, .slice a.pS nS a.cS, .slice a.pO q.ords.length a.cO, .int .i64 q.lim] 32) := by rw [hW1, hnN, hnS]; rfl
  have hgo : qV q a = .agg #[.slice a.pN nN a.cN, .int .i64 q.wh, .slice a.pB q.by'.length a.cB, .slice a.pS nS a.cS, .slice a.pO q.ords.length a.cO, .int .i64 q.lim] := by rw [hnN, hnS]; rfl
  have HQ := hide (hq.below hB1); have HB1 := hide hB1; have HN := hide hnN; have HNS := hide hnS
  have hnS2 : nS ≤ 8800000000000 := by rw [hnS]; exact hq.ns
  have HP := hide ((ok_iff q).1 hok)
  have HC3 : Hid (∀ X, Below W1.heap.size W1 X → X.cell? ⟨W.heap.size, 3, none⟩ = some (.slice a.pS nS a.cS)) := fun X h => by rw [cell_at (unhide HC X h), unhide HNS]; rfl
  rw [hgo]
  clear hq hB1 hlt hb1 hW1 hgo hnN hnS hok
  go_enter Tryd.func20, Tryd.ntmps20
  go_upto_region 1 with fail
  rw [← hW1']
  clear hW1'
  go_wp2_with fail
  go_loopw [3] (fun v3 wr => ∃ (k : Nat), v3 = .int .i64 k ∧ k ≤ nS ∧ Hid (Below W1.heap.size W1 wr ∧ ∀ x ∈ q.sh.take k, sumS q.nodes x = true)) (fun v3 _ => nS - (intOf v3).toNat)
  case atStart => exact ⟨0, rfl, by omega, Below.refl _ _, fun x hx => by simp at hx⟩
  case round =>
    obtain ⟨k, rfl, hk, hrel⟩ := hrel
    have c3 := unhide HC3 _ (unhide hrel).1
    by_cases hlt : k < nS
    · have hkl : k < q.sh.length := by rw [← unhide HNS]; exact hlt
      obtain ⟨b, off, e1, hbl, hr⟩ := (unhide HQ).s.2 k hkl
      obtain ⟨x, hx⟩ : ∃ x, x = q.sh[k] := ⟨_, rfl⟩
      rw [← hx] at hr
      have hB := (unhide hrel).1
      have l1 := run_ld45 (w := wr) (b := b) (o := off + k * 2) (x := x) (fun j u hu => (hB.cell (p := ⟨b, off + k * 2 + j, none⟩) hbl).trans (hr j u hu))
      have hmem : Hid (x ∈ q.sh) := by rw [hx]; exact List.getElem_mem hkl
      have htk : Hid (∀ y ∈ q.sh.take (k + 1), y ∈ q.sh.take k ∨ y = x) := fun y hy => by
        rw [List.take_succ_eq_append_getElem hkl, List.mem_append, List.mem_singleton, ← hx] at hy
        exact hy
      have hkn : (k : Int) < (nS : Int) := by omega
      obtain ⟨x1, x2⟩ := x
      have hbad : Hid (sumS q.nodes (x1, x2) = false → q.sh.all (sumS q.nodes) = false) := fun h => by rw [List.all_eq_false]; exact ⟨_, unhide hmem, by rw [h]; decide⟩
      simp only at l1
      have HUP : Hid (∀ o, Below W1.heap.size W1 (wr.alloc o)) := fun o => hB.alloc hB.size o
      have HWB : Hid (∀ X, Below W1.heap.size W1 X → Below W.heap.size W X) := fun X h => (unhide HB1).trans (h.mono (unhide HB1).size)
      rw [e1] at c3
      clear hr hx hkl hB hbl e1
      by_cases hx1 : x1 = 2
      · subst hx1
        have hin := (unhide HP).p5 _ (unhide hmem)
        obtain ⟨i1, i2⟩ := shw_in hin (by show ¬ (2 : Int) = 1; decide)
        rw [tyL_len] at i2
        simp only at i1 i2
        obtain ⟨i, hi⟩ : ∃ i : Nat, x2 = i := ⟨x2.toNat, by omega⟩
        subst hi
        have hiN : i < q.nodes.length := by omega
        have hiN' : (i : Int) < (nN : Int) := by rw [unhide HN]; omega
        obtain ⟨bN, oN, eN, hbN, hrN⟩ := (unhide HQ).n.2 i hiN
        have hrN' : ∀ o, (wr.alloc o).rangeAt bN (oN + i * 6) (q.nodes[i]).vals := fun o j u hu => ((unhide HUP o).cell (p := ⟨bN, oN + i * 6 + j, none⟩) hbN).trans (hrN j u hu)
        obtain ⟨y, hy⟩ : ∃ y, y = q.nodes[i] := ⟨_, rfl⟩
        rw [← hy] at hrN'
        have y0 : ∀ o, (wr.alloc o).cell? ⟨bN, oN + i * 6, none⟩ = some (.int .i64 y.op) := fun o => hrN' o 0 _ rfl
        have y3 : ∀ o, (wr.alloc o).cell? ⟨bN, oN + i * 6 + 3, none⟩ = some (.int .i64 y.field) := fun o => hrN' o 3 _ rfl
        have cN : ∀ o, (wr.alloc o).cell? ⟨W.heap.size, 0, none⟩ = some (.slice (some ⟨bN, oN, none⟩) nN a.cN) := fun o => by rw [cell_at (unhide HC _ (unhide HUP o)), ← eN, unhide HN]; rfl
        have HSM : Hid (sumS q.nodes (2, (i : Int)) = (y.op == 16 && y.field == 7)) := by
          show _ = _
          unfold sumS ofAt isOf
          simp only [Int.toNat_natCast, List.getElem?_eq_getElem hiN, ← hy]
          rfl
        clear hrN hrN' hy i1 i2 hin eN hbN
        by_cases hop : y.op = 16
        · by_cases hfl : y.field = 7
          · rw [hop] at y0
            rw [hfl] at y3
            have HST : Hid (sumS q.nodes (2, (i : Int)) = true) := by show _ = _; rw [unhide HSM, hop, hfl]; rfl
            clear hop hfl
            go_wp2_with fail
            refine ⟨⟨k + 1, by go_num, by omega, unhide HUP _, fun z hz => ?_⟩, by simp [intOf]; omega⟩
            rcases unhide htk z hz with h | h
            · exact (unhide hrel).2 z h
            · rw [h]; exact unhide HST
          · rw [hop] at y0
            have hf' := beqF hfl
            have hf'' : (y.field != 7) = true := by simpa using hfl
            have HST : Hid (sumS q.nodes (2, (i : Int)) = false) := by show _ = _; rw [unhide HSM, hf', Bool.and_false]
            clear hop
            go_wp2_with fail
            go_ret
            exact ⟨by rw [unhide hbad (unhide HST)]; rfl, unhide HWB _ (unhide HUP _)⟩
        · have ho' := beqF hop
          have ho'' : (y.op != 16) = true := by simpa using hop
          have HST : Hid (sumS q.nodes (2, (i : Int)) = false) := by show _ = _; rw [unhide HSM, ho', Bool.false_and]
          go_wp2_with fail
          go_ret
          exact ⟨by rw [unhide hbad (unhide HST)]; rfl, unhide HWB _ (unhide HUP _)⟩
      · have hx1' := beqF hx1
        have hx1'' : (x1 != 2) = true := by simpa using hx1
        have HSM : Hid (sumS q.nodes (x1, x2) = false) := by show _ = _; unfold sumS; simp only [hx1']; rfl
        go_wp2_with fail
        go_ret
        exact ⟨by rw [unhide hbad (unhide HSM)]; rfl, unhide HWB _ (unhide HUP _)⟩
    · have hkn : k = nS := by omega
      subst hkn
      have hfin : Hid (q.sh.all (sumS q.nodes) = true) := by
        show _ = _
        rw [List.all_eq_true]
        intro x hx
        exact (unhide hrel).2 x (by rw [List.take_of_length_le (by rw [← unhide HNS]; exact Nat.le_refl _)]; exact hx)
      go_wp2_with fail
      go_ret
      exact ⟨by rw [unhide hfin]; rfl, (unhide HB1).trans ((unhide hrel).1.mono (unhide HB1).size)⟩
theorem Twn.cp {W w' : World} {q : Qy} {a : Qa} (h : Twn W w' q a) : QCp a ∧ q.nodes.length ≤ a.cN := by
  have hz : ∀ {α : Type} {K : Kd α} {p : Option Addr} {n c : Nat} {L : List α}, Rw K W w' (.slice p n c) n L → (p = none → c = 0) ∧ n ≤ c := fun {α K p n c L} hr => by
    obtain ⟨_, _, e1, e2, e3⟩ := row_slice hr.row
    cases e1
    refine ⟨fun e => (e2 e).2, ?_⟩
    cases p with
    | none => have := e2 rfl; omega
    | some ad => exact (e3 ad rfl).2.2.2
  exact ⟨⟨(hz h.n).1, (hz h.b).1, (hz h.s).1, (hz h.o).1⟩, (hz h.n).2⟩
/-- what holds of the way that Plan says -/
theorem plan_facts (q : Qy) : (1 ≤ planS q ∧ planS q ≤ 3) ∧ (planS q ≠ 1 → okQ q = true ∧ q.by'.length = 0) ∧ (planS q = 3 → ¬ q.wh < 0) ∧ (planS q = 1 → okQ q = true → q.wh < 0 → q.by'.length = 0 → q.sh.all (sumS q.nodes) = true → False) := by
  have hb : bareS q = true → okQ q = true ∧ q.by'.length = 0 := fun h => by
    unfold bareS at h
    rw [Bool.and_eq_true, Bool.and_eq_true] at h
    exact ⟨h.1, by simpa using h.2.1⟩
  have hwh : okQ q = true → q.wh < 0 → q.wh = -1 := fun h h0 => by
    have hP := (ok_iff q).1 h
    rcases hP.p2 with e | e
    · exact e
    · have := (tat_nz (T := tyL q.nodes) (i := q.wh) (by rw [e]; decide)).1
      omega
  unfold planS
  by_cases h : bareS q = true
  · rw [if_pos h]
    obtain ⟨h1, h2⟩ := hb h
    by_cases hw : q.wh = -1
    · rw [if_pos hw]
      exact ⟨by omega, fun _ => ⟨h1, h2⟩, fun e => by omega, fun e => by omega⟩
    · rw [if_neg hw]
      refine ⟨?_, fun _ => ⟨h1, h2⟩, fun _ h0 => hw (hwh h1 h0), fun _ _ h0 _ _ => hw (hwh h1 h0)⟩
      split
      · omega
      · split <;> omega
  · rw [if_neg h]
    refine ⟨by omega, fun e => absurd rfl e, fun e => by omega, fun _ h1 _ h3 h4 => h ?_⟩
    unfold bareS
    rw [h1, h3, h4]; rfl
/-- orders and limits do not count -/
theorem plan_same {q : Qy} {l : Int} (h : okQ ⟨q.nodes, q.wh, q.by', q.sh, [], l⟩ = okQ q) : planS ⟨q.nodes, q.wh, q.by', q.sh, [], l⟩ = planS q := by
  have hb : bareS ⟨q.nodes, q.wh, q.by', q.sh, [], l⟩ = bareS q := by unfold bareS; rw [h]
  unfold planS
  rw [hb]
  rfl
theorem chkE_ok {q r : Qy} (h : chkE r = chkE q) : okQ r = okQ q := by
  unfold chkE at h
  cases h1 : okQ r <;> cases h2 : okQ q <;> rw [h1, h2] at h <;> first | rfl | (exact absurd h (by decide))
end Go.Proofs.YtcelllihidkphaaDoor
