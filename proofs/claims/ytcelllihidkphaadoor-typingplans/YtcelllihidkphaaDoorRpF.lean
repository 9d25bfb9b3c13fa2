/- typing, the document's: is 65, bare 39. -/
import Derived.Test.YtcelllihidkphaaDoorRpE
import Derived.Test.YtcelllihidkphaaDoorWyA
namespace Go.Proofs.YtcelllihidkphaaDoor
open Go Go.Shelf Go.ChangeShapes Go.WideShapes Go.ChangeAt Go.RowKit Go.Maps
set_option linter.unusedVariables false
set_option linter.unusedSimpArgs false
set_option maxRecDepth 100000
set_option maxHeartbeats 8000000
attribute [local go_sem ↓] ld32_is ld45_is
theorem ris_any {W : World} {q : Qy} {a : Qa} (hq : QIn W q a) {i : Nat} (hi : i < q.nodes.length) (f : Int) : Calls Tryd.prog 65 #[qV q a, .int .i64 (i : Int), .int .i64 f] W fun e w' => e = .returned (.bool (isOf q.nodes[i] f)) ∧ Below W.heap.size W w' := by
  obtain ⟨nN, hnN⟩ : ∃ n, n = q.nodes.length := ⟨_, rfl⟩
  obtain ⟨W1, hW1⟩ : ∃ X, X = W.alloc (.cells (qC q a).toArray 32) := ⟨_, rfl⟩
  have hB1 : Below W.heap.size W W1 := by rw [hW1]; exact Below.a1 W _
  have hb1 : W1.heap[W.heap.size]? = some (.cells (qC q a).toArray 32 (0, 0)) := by rw [hW1]; exact heap_new _ _
  obtain ⟨b, off, e1, hbl, hr⟩ := (hq.below hB1).n.2 i hi
  obtain ⟨y, hy⟩ : ∃ y, y = q.nodes[i] := ⟨_, rfl⟩
  rw [← hy] at hr ⊢
  have y0 : W1.cell? ⟨b, off + i * 6, none⟩ = some (.int .i64 y.op) := hr 0 _ rfl
  have y3 : W1.cell? ⟨b, off + i * 6 + 3, none⟩ = some (.int .i64 y.field) := hr 3 _ rfl
  have c0 : W1.cell? ⟨W.heap.size, 0, none⟩ = some (.slice (some ⟨b, off, none⟩) nN a.cN) := by rw [cell_at hb1, ← e1, hnN]; rfl
  have hW1' : W1 = W.alloc (.cells #[.slice (some ⟨b, off, none⟩) nN a.cN, .int .i64 q.wh, .slice a.pB q.by'.length a.cB, .slice a.pS q.sh.length a.cS, .slice a.pO q.ords.length a.cO, .int .i64 q.lim] 32) := by rw [hW1, ← e1, hnN]; rfl
  have hgo : qV q a = .agg #[.slice (some ⟨b, off, none⟩) nN a.cN, .int .i64 q.wh, .slice a.pB q.by'.length a.cB, .slice a.pS q.sh.length a.cS, .slice a.pO q.ords.length a.cO, .int .i64 q.lim] := by rw [← e1, hnN]; rfl
  have hin : (i : Int) < (nN : Int) := by rw [hnN]; omega
  have hi0 : ¬ (i : Int) < 0 := by omega
  have HB1 := hide hB1
  rw [hgo]
  unfold isOf
  obtain ⟨yo, hyo⟩ : ∃ v, v = y.op := ⟨_, rfl⟩
  obtain ⟨yf, hyf⟩ : ∃ v, v = y.field := ⟨_, rfl⟩
  rw [← hyo] at y0 ⊢
  rw [← hyf] at y3 ⊢
  clear hq hB1 hb1 hW1 hgo hnN hr hy hbl e1 hyo hyf
  by_cases h : yo = 16
  · subst h
    go_enter Tryd.func65, Tryd.ntmps65
    go_upto_region 1 with fail
    rw [← hW1']
    clear hW1'
    go_wp2_with fail
    go_ret
    exact ⟨rfl, unhide HB1⟩
  · have h' := beqF h
    rw [h', Bool.false_and]
    go_enter Tryd.func65, Tryd.ntmps65
    go_upto_region 1 with fail
    rw [← hW1']
    clear hW1'
    go_wp2_with fail
    go_ret
    exact ⟨rfl, unhide HB1⟩
theorem rbare_any {W : World} {q : Qy} {a : Qa} (hq : QIn W q a) (hok : okQ q = true) : Calls Tryd.prog 39 #[qV q a] W fun e w' => e = .returned (.bool (bareS q)) ∧ Below W.heap.size W w' := by
  obtain ⟨nB, hnB⟩ : ∃ n, n = q.by'.length := ⟨_, rfl⟩
  obtain ⟨nS, hnS⟩ : ∃ n, n = q.sh.length := ⟨_, rfl⟩
  obtain ⟨W1, hW1⟩ : ∃ X, X = W.alloc (.cells (qC q a).toArray 32) := ⟨_, rfl⟩
  have hB1 : Below W.heap.size W W1 := by rw [hW1]; exact Below.a1 W _
  have hlt1 : W.heap.size < W1.heap.size := by rw [hW1]; simp
  have hb1 : W1.heap[W.heap.size]? = some (.cells (qC q a).toArray 32 (0, 0)) := by rw [hW1]; exact heap_new _ _
  have HC : Hid (∀ X, Below W1.heap.size W1 X → X.heap[W.heap.size]? = some (.cells (qC q a).toArray 32 (0, 0))) := fun X h => (h.block _ hlt1).trans hb1
  have hW1' : W1 = W.alloc (.cells #[.slice a.pN q.nodes.length a.cN, .int .i64 q.wh, .slice a.pB nB a.cB, .slice a.pS nS a.cS, .slice a.pO q.ords.length a.cO, .int .i64 q.lim] 32) := by rw [hW1, hnB, hnS]; rfl
  have hgo : qV q a = .agg #[.slice a.pN q.nodes.length a.cN, .int .i64 q.wh, .slice a.pB nB a.cB, .slice a.pS nS a.cS, .slice a.pO q.ords.length a.cO, .int .i64 q.lim] := by rw [hnB, hnS]; rfl
  have hbs : nS ≤ 8800000000000 := by rw [hnS]; exact hq.ns
  have HP := hide ((ok_iff q).1 hok)
  have hbr : bareS q = (q.by'.length == 0 && q.sh.all (sumS q.nodes)) := by unfold bareS; rw [hok, Bool.true_and]
  rw [hbr, ← hnB]
  obtain ⟨qq, hqq⟩ : ∃ v, v = qV q a := ⟨_, rfl⟩
  have HQQ := hide hqq
  have HQ := hide (hq.below hB1); have HB1 := hide hB1; have HNB := hide hnB; have HNS := hide hnS
  rw [hgo]
  clear hq hB1 hlt1 hb1 hW1 hgo hqq hnB hnS hok hbr
  go_enter Tryd.func39, Tryd.ntmps39
  go_upto_region 1 with fail
  rw [← hW1']
  clear hW1'
  go_wp2_with fail
  go_loopw [3] (fun v3 wr => ∃ (k : Nat), v3 = .int .i64 k ∧ k ≤ nS ∧ Hid (Below W1.heap.size W1 wr ∧ ∀ x ∈ q.sh.take k, sumS q.nodes x = true)) (fun v3 _ => nS - (intOf v3).toNat)
  case atStart => exact ⟨0, rfl, by omega, Below.refl _ _, fun x hx => by simp at hx⟩
  case round =>
    obtain ⟨k, rfl, hk, hrel⟩ := hrel
    have hBr := (unhide hrel).1
    have hbk := unhide HC _ hBr
    have c3 : wr.cell? ⟨W.heap.size, 3, none⟩ = some (.slice a.pS nS a.cS) := by rw [cell_at hbk, unhide HNS]; rfl
    have c2 : wr.cell? ⟨W.heap.size, 2, none⟩ = some (.slice a.pB nB a.cB) := by rw [cell_at hbk, unhide HNB]; rfl
    by_cases hlt : k < nS
    · have hkl : k < q.sh.length := by rw [← unhide HNS]; exact hlt
      obtain ⟨b, off, e1, hbl, hr⟩ := (unhide HQ).s.2 k hkl
      obtain ⟨x, hx⟩ : ∃ x, x = q.sh[k] := ⟨_, rfl⟩
      rw [← hx] at hr
      have hmem : x ∈ q.sh := by rw [hx]; exact List.getElem_mem hkl
      have htk : Hid (∀ y ∈ q.sh.take (k + 1), y ∈ q.sh.take k ∨ y = x) := fun y hy => by
        rw [List.take_succ_eq_append_getElem hkl, List.mem_append, List.mem_singleton, ← hx] at hy
        exact hy
      have x0 : wr.cell? ⟨b, off + k * 2, none⟩ = some (.int .i64 x.1) := (hBr.cell (p := ⟨b, off + k * 2, none⟩) hbl).trans (hr 0 _ rfl)
      have x1 : wr.cell? ⟨b, off + k * 2 + 1, none⟩ = some (.int .i64 x.2) := (hBr.cell (p := ⟨b, off + k * 2 + 1, none⟩) hbl).trans (hr 1 _ rfl)
      have hbad : Hid (sumS q.nodes x = false → (nB == 0 && q.sh.all (sumS q.nodes)) = false) := fun h => by
        have : q.sh.all (sumS q.nodes) = false := by rw [List.all_eq_false]; exact ⟨_, hmem, by rw [h]; decide⟩
        rw [this, Bool.and_false]
      have HWB : Hid (∀ X, Below W1.heap.size W1 X → Below W.heap.size W X) := fun X h => (unhide HB1).trans (h.mono (unhide HB1).size)
      have hkn : (k : Int) < (nS : Int) := by omega
      have hk0 : ¬ (k : Int) < 0 := by omega
      have hbw : b < wr.heap.size := Nat.lt_of_lt_of_le hbl hBr.size
      have hbq : W.heap.size < wr.heap.size := (Array.getElem?_eq_some_iff.1 hbk).1
      rw [e1] at c3
      obtain ⟨x1v, x2v⟩ := x
      simp only at x0 x1
      by_cases hx1 : x1v = 2
      · subst hx1
        have hin := (unhide HP).p5 _ hmem
        obtain ⟨i1, i2⟩ := shw_in hin (by show ¬ (2 : Int) = 1; decide)
        rw [tyL_len] at i2
        simp only at i1 i2
        obtain ⟨i, hi⟩ : ∃ i : Nat, x2v = i := ⟨x2v.toNat, by omega⟩
        subst hi
        have hiN : i < q.nodes.length := by omega
        have SI : Hid (∀ P : Bel wr, Calls Tryd.prog 65 #[qV q a, .int .i64 (i : Int), .int .i64 7] P.W fun e w' => e = .returned (.bool (isOf q.nodes[i] 7)) ∧ ∃ q' : Bel wr, w' = q'.W) := fun P => P.calls (ris_any (((unhide HQ).below hBr).below P.h) hiN 7)
        have LQ : Hid (∀ P : Bel wr, (ld32 (.pointer (some ⟨W.heap.size, 0, none⟩))).run Tryd.prog P.W = .ok (qV q a) P.W) := fun P => run_ld32 (fun j u hu => by rw [Nat.zero_add, cell_at ((P.h.block _ hbq).trans hbk)]; simpa using hu)
        have C3 : Hid (∀ P : Bel wr, P.W.cell? ⟨W.heap.size, 3, none⟩ = some (.slice (some ⟨b, off, none⟩) nS a.cS)) := fun P => (P.h.cell (p := ⟨W.heap.size, 3, none⟩) hbq).trans c3
        have X1 : Hid (∀ P : Bel wr, P.W.cell? ⟨b, off + k * 2 + 1, none⟩ = some (.int .i64 (i : Int))) := fun P => (P.h.cell (p := ⟨b, off + k * 2 + 1, none⟩) hbw).trans x1
        rw [← unhide HQQ] at SI LQ
        have HSM : Hid (sumS q.nodes (2, (i : Int)) = isOf q.nodes[i] 7) := by
          show _ = _
          unfold sumS ofAt
          simp only [Int.toNat_natCast, List.getElem?_eq_getElem hiN]
          rfl
        obtain ⟨bv, hbv⟩ : ∃ v, v = isOf q.nodes[i] 7 := ⟨_, rfl⟩
        rw [← hbv] at SI HSM
        have HBR := hide hBr
        clear hr hx hbl e1 hbv hin i1 i2 hiN hmem hbw hbk hBr hbq x1
        go_upto_region 6 with fail
        have lq := unhide LQ; have cc3 := unhide C3; have xx1 := unhide X1
        clear LQ C3 X1 c2 c3 x0
        refine wp_region_quiet_below (by kernel_rfl) (by kernel_rfl) ?_
        repeat (go_big_quiet_step (first | (go_at_call 65; refine unhide SI _)))
        refine wpQuiet_nil ?_
        rintro _ ⟨P, rfl⟩
        have HPB : Hid (Below W1.heap.size W1 P.W) := (unhide HBR).trans (P.h.mono (unhide HBR).size)
        cases bv with
        | false =>
          go_wp2_with fail
          go_ret
          exact ⟨by rw [unhide hbad (unhide HSM)]; rfl, unhide HWB _ (unhide HPB)⟩
        | true =>
          go_wp2_with fail
          refine ⟨⟨k + 1, by go_num, by omega, unhide HPB, fun z hz => ?_⟩, by simp [intOf]; omega⟩
          rcases unhide htk z hz with h | h
          · exact (unhide hrel).2 z h
          · rw [h]; exact unhide HSM
      · have hx1' := beqF hx1
        have hx1'' : (x1v != 2) = true := by simpa using hx1
        have HSM : Hid (sumS q.nodes (x1v, x2v) = false) := by show _ = _; unfold sumS; simp only [hx1']; rfl
        have HBR := hide hBr
        clear hr hx hbl e1 hmem hbw hbk hBr hbq
        go_wp2_with fail
        go_ret
        exact ⟨by rw [unhide hbad (unhide HSM)]; rfl, unhide HWB _ (unhide HBR)⟩
    · have hkn : k = nS := by omega
      subst hkn
      have hfin : Hid (q.sh.all (sumS q.nodes) = true) := by
        show _ = _
        rw [List.all_eq_true]
        intro x hx
        exact (unhide hrel).2 x (by rw [List.take_of_length_le (by rw [← unhide HNS]; exact Nat.le_refl _)]; exact hx)
      have HBR := hide hBr
      clear hbk hBr
      by_cases hb0 : nB = 0
      · subst hb0
        go_wp2_with fail
        go_ret
        exact ⟨by rw [unhide hfin]; rfl, (unhide HB1).trans ((unhide HBR).mono (unhide HB1).size)⟩
      · have hb0' : ((nB : Int) == 0) = false := by rw [beq_eq_false_iff_ne]; omega
        have hb0'' : ¬ (nB : Int) = 0 := by omega
        have HE : Hid ((nB == 0) = false) := by simpa [Hid] using hb0
        go_wp2_with fail
        go_ret
        exact ⟨by rw [unhide HE]; rfl, (unhide HB1).trans ((unhide HBR).mono (unhide HB1).size)⟩
end Go.Proofs.YtcelllihidkphaaDoor
