import Derived.Test.YtdeibifjiefapaaGreatDoorW21
/- The document's chart: Close (19). -/
namespace Go.Proofs.YtdeibifjiefapaaGreatDoor
open Go Go.Shelf Go.ChangeShapes Go.WideShapes Go.ChangeAt Go.RowKit Go.Maps Go.Sort
set_option linter.unusedVariables false
section
variable {α : Type} {K : Kd α}
theorem flat_set (h : KdOK K) : ∀ (L : List α) (k : Nat) (hk : k < L.length) (j : Nat), j < K.s → ∀ (x : α) (u : Value), K.enc x = (K.enc L[k]).set j u → (K.flat L).set (k * K.s + j) u = K.flat (L.set k x)
  | [], k, hk, _, _, _, _, _ => by simp at hk
  | r :: R, 0, _, j, hj, x, u, hx => by
    have e : K.flat (r :: R) = K.enc r ++ K.flat R := by simp [Kd.flat]
    rw [e, List.set_append_left _ _ (by rw [h.len]; omega)]
    simp only [List.set_cons_zero, Nat.zero_mul, Nat.zero_add]
    have e2 : K.flat (x :: R) = K.enc x ++ K.flat R := by simp [Kd.flat]
    rw [e2, hx]; rfl
  | r :: R, k + 1, hk, j, hj, x, u, hx => by
    have e : K.flat (r :: R) = K.enc r ++ K.flat R := by simp [Kd.flat]
    have e2 : (k + 1) * K.s + j - (K.enc r).length = k * K.s + j := by rw [h.len, Nat.add_mul, Nat.one_mul]; omega
    rw [e, List.set_append_right _ _ (by rw [h.len, Nat.add_mul, Nat.one_mul]; omega), e2, flat_set h R k (by simpa using hk) j hj x u (by simpa using hx)]
    simp only [List.set_cons_succ]
    simp [Kd.flat]
theorem row_set {w : World} {B g n cap size : Nat} {e : TypeId} {xs : List Value} (h : w.ownsRow B e size (.slice (some ⟨g, 0, none⟩) n cap) n xs) (j : Nat) (u : Value) : (w.setCell ⟨g, j, none⟩ u).ownsRow B e size (.slice (some ⟨g, 0, none⟩) n cap) n (xs.set j u) := by
  refine ⟨by rw [List.length_set]; exact h.1, ?_⟩
  rcases h.2 with ⟨h1, _⟩ | ⟨g', cap', cur, h1, hB, h2, h3, h4, h5, h6⟩
  · cases h1
  · injection h1 with h1 _ h1c
    injection h1 with h1
    injection h1 with h1
    subst h1 h1c
    refine .inr ⟨g, cap, _, rfl, hB, Go.heap_setCell_same w g j cur e u h2, h3, h4, ?_, ?_⟩
    · simpa using h5
    · rw [← h6]
      simp [List.take_set]
end
theorem close_zero {L : List Ac} {x : Nm} (h : closeE L x = 0) : ∃ a, fnd L x = some a ∧ a.cl = false ∧ useB L x = false := by
  unfold closeE at h
  cases hf : fnd L x with
  | none => rw [hf] at h; exact absurd (show (61 : Int) = 0 from h) (by decide)
  | some a =>
    rw [hf] at h
    have h' : (if a.cl = true then (63 : Int) else if useB L x = true then 65 else 0) = 0 := h
    by_cases h1 : a.cl = true
    · rw [if_pos h1] at h'; exact absurd h' (by decide)
    · rw [if_neg h1] at h'
      by_cases h2 : useB L x = true
      · rw [if_pos h2] at h'; exact absurd h' (by decide)
      · exact ⟨a, rfl, by simpa using h1, by simpa using h2⟩
theorem Good.close {L : List Ac} (hG : Good L) {x : Nm} (h : closeE L x = 0) : Good (clA L x) := by
  obtain ⟨a0, hf0, _, hu⟩ := close_zero h
  obtain ⟨ha0, hax⟩ := fnd_some hf0
  have hnm : ∀ b : Ac, (if b.nm = x then { b with cl := true } else b : Ac).nm = b.nm ∧ (if b.nm = x then { b with cl := true } else b : Ac).ty = b.ty ∧ (if b.nm = x then { b with cl := true } else b : Ac).dy = b.dy := fun b => by split <;> exact ⟨rfl, rfl, rfl⟩
  refine ⟨?_, fun b hb => ?_, fun b hb p t e => ?_, fun b hb => ?_, fun b hb => ?_, by rw [clA, List.length_map]; exact hG.len⟩
  · unfold clA
    rw [List.pairwise_map]
    exact hG.rise.imp (fun {a b} h => by rw [(hnm a).1, (hnm b).1]; exact h)
  · obtain ⟨c, hc, rfl⟩ := mem_clA.1 hb
    rw [(hnm c).1]
    exact hG.name c hc
  · obtain ⟨c, hc, rfl⟩ := mem_clA.1 hb
    rw [(hnm c).1] at e
    obtain ⟨q, hq, hqp, h1, h2, h3⟩ := hG.up c hc p t e
    refine ⟨_, mem_clA.2 ⟨q, hq, rfl⟩, by rw [(hnm q).1]; exact hqp, by rw [(hnm q).2.1, (hnm c).2.1]; exact h1, by rw [(hnm q).2.2, (hnm c).2.2]; exact h2, fun hcl => ?_⟩
    by_cases ec : c.nm = x
    · rw [if_pos ec]
    · rw [if_neg ec]
      by_cases eq : q.nm = x
      · by_cases hcc : c.cl = true
        · exact hcc
        · exfalso
          have hun : useB L x = true := by
            simp only [useB, List.any_eq_true, Bool.and_eq_true, decide_eq_true_eq, Bool.not_eq_true']
            refine ⟨c, hc, ?_, by simpa using hcc⟩
            rw [anc, e, ← eq, hqp]
            simp
          rw [hu] at hun
          cases hun
      · rw [if_neg eq] at hcl
        exact h3 hcl
  · obtain ⟨c, hc, rfl⟩ := mem_clA.1 hb
    rw [(hnm c).2.2]
    exact hG.day c hc
  · obtain ⟨c, hc, rfl⟩ := mem_clA.1 hb
    rw [(hnm c).2.1]
    exact hG.typ c hc
/-- how the document's chart lies behind a call that may change it -/
def RChg (W : World) (d : Nat) (S : Nat → Prop) (L : List Ac) (w' : World) : Prop := ∃ S', Rc w' d S' L ∧ (∀ k, S' k → S k ∨ W.heap.size ≤ k) ∧ Fr S W w'
theorem RChg.below {W w' : World} {d : Nat} {S : Nat → Prop} {L : List Ac} (h : Rc W d S L) (hb : Below W.heap.size W w') : RChg W d S L w' := ⟨S, h.below hb, fun k hk => .inl hk, Fr.below hb⟩
theorem rchg_from {W X w' : World} {d : Nat} {S : Nat → Prop} {L : List Ac} (hb : Below W.heap.size W X) (h : RChg X d S L w') : RChg W d S L w' := by
  obtain ⟨S', h1, h2, h3⟩ := h
  exact ⟨S', h1, fun k hk => (h2 k hk).imp id (fun h => Nat.le_trans hb.size h), h3.os.trans hb.os, h3.tape.trans hb.tape, h3.output.trans hb.output, Nat.le_trans hb.size h3.size, fun k hk hs => (h3.block k (Nat.lt_of_lt_of_le hk hb.size) hs).trans (hb.block k hk)⟩
theorem clA_set {L : List Ac} (hG : Good L) {i : Nat} (hi : i < L.length) : clA L L[i].nm = L.set i { L[i] with cl := true } := by
  refine List.ext_getElem (by simp [clA]) fun k h1 h2 => ?_
  have hk : k < L.length := by simpa [clA] using h1
  simp only [clA, List.getElem_map, List.getElem_set]
  by_cases e : i = k
  · subst e
    simp
  · rw [if_neg e, if_neg (fun e2 => ?_)]
    have h3 := List.pairwise_iff_getElem.1 hG.rise
    rcases Nat.lt_or_gt_of_ne e with h4 | h4
    · have h5 := h3 i k hi hk h4
      rw [e2] at h5
      exact slt_irrefl _ h5
    · have h5 := h3 k i hk hi h4
      rw [e2] at h5
      exact slt_irrefl _ h5
/-- a chart of the document's, one of its accounts closed -/
theorem Rc.close {W : World} {d : Nat} {S : Nat → Prop} {L : List Ac} (h : Rc W d S L) {i : Nat} (hi : i < L.length) (he : closeE L L[i].nm = 0) : ∃ g c, W.cell? ⟨d, 0, none⟩ = some (.slice (some ⟨g, 0, none⟩) L.length c) ∧ W.cell? ⟨g, i * 4 + 3, none⟩ = some (.bool L[i].cl) ∧ W.frozen? ⟨g, i * 4 + 3, none⟩ = false ∧ RChg W d S (clA L L[i].nm) (W.setCell ⟨g, i * 4 + 3, none⟩ (.bool true)) := by
  have hG2 := h.isGood.close he
  obtain ⟨v, h⟩ := h
  have hrow := h.row
  rcases h.row.2 with ⟨e, h2⟩ | ⟨g, cap, cur, e, hB, hh, h3, h4, h5, h6⟩
  · omega
  · subst e
    have hsv := h.sv g rfl
    have hl := own_lies (B := 0) kA_ok rfl h.row
    obtain ⟨b', off', e', hlt, hr⟩ := hl.2 i hi
    cases e'
    have c3 := hr 3 (.bool L[i].cl) rfl
    rw [Nat.zero_add] at c3
    refine ⟨g, cap, cell_of h.blk rfl, c3, froz_of hh _, S, ⟨.slice (some ⟨g, 0, none⟩) L.length cap, (Below.heap_setCell _ _ _ _ (fun e => hsv.2 e.symm)).trans h.blk, ?_, hG2, h.sd, h.sv, fun k hk => by simpa using h.inh k hk⟩, fun k hk => .inl hk, ⟨rfl, rfl, rfl, by simp, fun k hk hs => Below.heap_setCell _ _ _ _ (fun e => hs (by rw [e]; exact hsv.1))⟩⟩
    have hs := row_set hrow (i * kA.s + 3) (.bool true)
    rw [flat_set kA_ok L i hi 3 (by decide) { L[i] with cl := true } (.bool true) rfl] at hs
    rw [clA_set h.good hi, List.length_set]
    exact hs
theorem useB_at {L : List Ac} (hG : Good L) {i : Nat} (hi : i < L.length) : useB L L[i].nm = true ↔ ∃ k, ∃ h : k < L.length, L[i].nm ∈ pathL L[k].nm ∧ k ≠ i ∧ L[k].cl = false := by
  simp only [useB, List.any_eq_true, Bool.and_eq_true, decide_eq_true_eq, Bool.not_eq_true']
  have hne : L[i].nm ≠ [] := name_ne (hG.name _ (List.getElem_mem hi))
  constructor
  · rintro ⟨b, hb, h1, h2⟩
    obtain ⟨k, hk, rfl⟩ := List.mem_iff_getElem.1 hb
    have hn := hG.name _ (List.getElem_mem hk)
    rw [anc, List.mem_append] at h1
    have h3 : L[i].nm ∈ ups L[k].nm := h1.resolve_right (by simpa using hne)
    refine ⟨k, hk, by rw [pathL, if_pos hn]; exact List.mem_cons_of_mem _ h3, fun e => ?_, h2⟩
    subst e
    exact Nat.lt_irrefl _ (anc_lt hn (List.mem_append_left _ h3))
  · rintro ⟨k, hk, h1, h2, h3⟩
    have hn := hG.name _ (List.getElem_mem hk)
    rw [pathL, if_pos hn] at h1
    refine ⟨L[k], List.getElem_mem hk, ?_, h3⟩
    rcases List.mem_cons.1 h1 with e | h1
    · have h4 := hG.one (List.getElem_mem hi) (List.getElem_mem hk) e
      exfalso
      have h5 := List.pairwise_iff_getElem.1 hG.rise
      rcases Nat.lt_or_gt_of_ne h2 with h6 | h6
      · have h7 := h5 k i hk hi h6
        rw [e] at h7
        exact slt_irrefl _ h7
      · have h7 := h5 i k hi hk h6
        rw [e] at h7
        exact slt_irrefl _ h7
    · rw [anc]
      exact List.mem_append_left _ h1
set_option maxRecDepth 100000 in
set_option maxHeartbeats 8000000 in
theorem rclose_any {W : World} {d : Nat} {S : Nat → Prop} {L : List Ac} (h : Rc W d S L) (t : ByteArray) :
    Calls Tryz.prog 19 #[ptr d, .string t] W fun e w' => e = .returned (.int .i64 (closeE L t.data.toList)) ∧ RChg W d S (if closeE L t.data.toList = 0 then clA L t.data.toList else L) w' := by
  have dA := hide (rat_any h t)
  have HC := hide h
  have HG := hide h.isGood
  have hlen := h.isGood.len
  obtain ⟨p, c, hc, _, hl, _, _⟩ := h.open
  have HL := hide hl
  obtain ⟨x, hx⟩ : ∃ x, x = t.data.toList := ⟨_, rfl⟩
  have HX := hide hx
  rw [← hx] at dA
  rw [← hx]
  obtain ⟨E, hE⟩ : ∃ E, E = closeE L x := ⟨_, rfl⟩
  obtain ⟨M, hM⟩ : ∃ M, M = if E = 0 then clA L x else L := ⟨_, rfl⟩
  rw [← hE, ← hM]
  have HEO := hide hE
  obtain ⟨n, hn⟩ : ∃ n, n = L.length := ⟨_, rfl⟩
  rw [← hn] at hc hlen
  have HN := hide hn
  have HM := hide hM
  clear h hl hn hx hM
  go_enter Tryz.func19, Tryz.ntmps19
  go_upto_region 2 with (go_at_call 88; refine (unhide dA).mono ?_; rintro e X ⟨⟨r, rfl, ho⟩, hX⟩; rw [hX]; clear hX)
  rcases ho with ⟨i, hi, rfl, hf⟩ | ⟨rfl, hf⟩
  · obtain ⟨hfm, hfx⟩ := fnd_some hf
    rw [closeE, hf] at hE
    have hE2 : E = if L[i].cl = true then 63 else if useB L x = true then 65 else 0 := hE
    obtain ⟨b, off, hp, _, _⟩ := (unhide HL).2 i hi
    subst hp
    have hin : i < n := by rw [unhide HN]; exact hi
    have c3 := (acc_cells4 (unhide HL) hi (Below.refl _ _)).2.2.2
    have hi0 : ¬ (i : Int) < 0 := by omega
    clear hE dA hf hfm
    cases hcl : L[i].cl with
    | true =>
      rw [hcl] at c3 hE2
      have e2 : E = 63 := hE2
      subst e2
      have HF : Hid (RChg W d S M W) := by rw [unhide HM]; exact RChg.below (unhide HC) (Below.refl _ _)
      clear hE2 hcl hfx
      go_wp2
      go_ret
      exact ⟨rfl, unhide HF⟩
    | false =>
      rw [hcl] at c3 hE2
      have hE3 : E = if useB L x = true then 65 else 0 := hE2
      have HUS := hide (useB_at (unhide HG) hi)
      rw [hfx] at HUS
      have HFX := hide hfx; have HE := hide hE3
      clear hE2 hE3 hcl hfx
      go_wp2_with fail
      go_loopw [6] (fun v6 wr => ∃ k : Nat, k ≤ n ∧ v6 = .int .i64 k ∧ Hid (Below W.heap.size W wr) ∧ Hid (∀ j (h : j < L.length), j < k → ¬ (x ∈ pathL L[j].nm ∧ j ≠ i ∧ L[j].cl = false))) (fun v6 _ => n - (intOf' v6).toNat)
      case atStart => exact ⟨0, Nat.zero_le _, rfl, Below.refl _ _, fun j _ hj => by omega⟩
      case round =>
        obtain ⟨k, hk, rfl, hbw, hno⟩ := hrel
        obtain ⟨w7, hw7⟩ : ∃ w7, w7 = wr := ⟨_, rfl⟩
        rw [← hw7] at hbw ⊢
        clear hw7
        by_cases hlt : k < n
        · have hkL : k < L.length := by rw [← unhide HN]; exact hlt
          have hnm := (unhide HG).name _ (List.getElem_mem hkL)
          have HCY : Hid (∀ Y, Below w7.heap.size w7 Y → Y.cell? ⟨d, 0, none⟩ = some (.slice (some ⟨b, off, none⟩) n c) ∧ Y.cell? ⟨b, off + k * 4, none⟩ = some (.string (txN L[k].nm)) ∧ Y.cell? ⟨b, off + k * 4 + 3, none⟩ = some (.bool L[k].cl) ∧ Below W.heap.size W Y) := fun Y hY => by
            have h1 := (unhide hbw).trans (hY.mono (unhide hbw).size)
            have h2 := acc_cells4 (unhide HL) hkL h1
            exact ⟨(h1.cell (p := ⟨d, 0, none⟩) (World.block_lt_of_cell? _ _ hc)).trans hc, h2.1, h2.2.2.2, h1⟩
          have cd7 := (unhide HCY _ (Below.refl _ _)).1
          have c07 := (unhide HCY _ (Below.refl _ _)).2.1
          have dU0 := runder_any (txN L[k].nm) t (name_size hnm) w7
          rw [undS, txN_list, ← unhide HX] at dU0
          have dU := hide dU0
          obtain ⟨U, hU⟩ : ∃ U, U = decide (x ∈ pathL L[k].nm) := ⟨_, rfl⟩
          rw [← hU] at dU
          have hwk : IntKind.i64.wrap ((k : Int) + 1) = (k : Int) + 1 := wrapI (by omega) (by omega)
          have HST : Hid (¬ (x ∈ pathL L[k].nm ∧ k ≠ i ∧ L[k].cl = false) → ∀ j (h : j < L.length), j < k + 1 → ¬ (x ∈ pathL L[j].nm ∧ j ≠ i ∧ L[j].cl = false)) := fun hs j h hj => by
            by_cases e : j = k
            · subst e; exact hs
            · exact unhide hno j h (by omega)
          obtain ⟨T, hT⟩ : ∃ T, T = txN L[k].nm := ⟨_, rfl⟩
          rw [← hT] at dU HCY c07
          have HUU := hide hU
          clear hT dU0 hnm hU
          go_upto_region 10 with (go_at_call 91; refine (unhide dU).mono ?_; rintro e Y ⟨rfl, hb⟩; have hy := unhide HCY Y hb; have cd := hy.1; have c3y := hy.2.2.1; have BY := hide hy.2.2.2; clear hb hy)
          clear cd7 c07
          cases U with
          | false =>
            have HS2 := hide (unhide HST (fun h => by have := of_decide_eq_false (unhide HUU).symm; exact this h.1))
            clear HST
            as_aux_lemma =>
              go_wp2_with fail
              refine ⟨⟨k + 1, by omega, by simp, unhide BY, unhide HS2⟩, ?_⟩
              show n - ((k : Int) + 1).toNat < n - ((k : Int)).toNat
              omega
          | true =>
            by_cases hki : k = i
            · have HS2 := hide (unhide HST (fun h => h.2.1 hki))
              subst hki
              clear HST
              as_aux_lemma =>
                go_wp2_with fail
                refine ⟨⟨k + 1, by omega, by simp, unhide BY, unhide HS2⟩, ?_⟩
                show n - ((k : Int) + 1).toNat < n - ((k : Int)).toNat
                omega
            · have hkib : ((k : Int) == (i : Int)) = false := by rw [beq_eq_false_iff_ne]; omega
              have hki2 : ¬ (k : Int) = (i : Int) := by omega
              cases hck : L[k].cl with
              | true =>
                rw [hck] at c3y
                have HS2 := hide (unhide HST (fun h => by rw [hck] at h; exact absurd h.2.2 (by decide)))
                clear HST hck
                as_aux_lemma =>
                  go_wp2_with fail
                  refine ⟨⟨k + 1, by omega, by simp, unhide BY, unhide HS2⟩, ?_⟩
                  show n - ((k : Int) + 1).toNat < n - ((k : Int)).toNat
                  omega
              | false =>
                rw [hck] at c3y
                have hus : useB L x = true := (unhide HUS).2 ⟨k, hkL, of_decide_eq_true (unhide HUU).symm, hki, hck⟩
                have e2 : E = 65 := by rw [unhide HE, if_pos hus]
                subst e2
                have HF : Hid (RChg W d S M Y) := by rw [unhide HM]; exact RChg.below (unhide HC) (unhide BY)
                clear HST hck hus
                as_aux_lemma =>
                  go_wp2_with fail
                  go_ret
                  exact ⟨rfl, unhide HF⟩
        · have hkn : k = n := by omega
          subst hkn
          have hus : ¬ useB L x = true := fun hus => by
            obtain ⟨j, hj, h1⟩ := (unhide HUS).1 hus
            exact unhide hno j hj (by rw [unhide HN]; exact hj) h1
          have e2 : E = 0 := by rw [unhide HE, if_neg hus]
          have hz : closeE L L[i].nm = 0 := by rw [unhide HFX, ← unhide HEO]; exact e2
          have hM2 : M = clA L L[i].nm := by rw [unhide HM, if_pos e2, unhide HFX]
          obtain ⟨g, cc, h1, h2, h3, h4⟩ := ((unhide HC).below (unhide hbw)).close hi hz
          rw [← unhide HN] at h1
          have HF : Hid (RChg W d S M (w7.setCell ⟨g, i * 4 + 3, none⟩ (.bool true))) := by rw [hM2]; exact rchg_from (unhide hbw) h4
          subst e2
          clear hc hus hz hM2 h4 c3
          as_aux_lemma =>
            go_wp2_with fail
            go_ret
            exact ⟨rfl, unhide HF⟩
  · rw [closeE, hf] at hE
    have e2 : E = 61 := hE
    subst e2
    have HF : Hid (RChg W d S M W) := by rw [unhide HM]; exact RChg.below (unhide HC) (Below.refl _ _)
    clear hE hf dA
    go_wp2
    go_ret
    exact ⟨rfl, unhide HF⟩
end Go.Proofs.YtdeibifjiefapaaGreatDoor
/- The document's chart: fits (78). -/
namespace Go.Proofs.YtdeibifjiefapaaGreatDoor
open Go Go.Shelf Go.ChangeShapes Go.WideShapes Go.ChangeAt Go.RowKit Go.Maps Go.Sort
set_option linter.unusedVariables false
/-- whether an account of a list keeps the rules -/
def rfitB (L : List Ac) (a : Ac) : Bool := nameL a.nm && decide (1 ≤ a.dy ∧ a.dy ≤ 3652059) && decide (1 ≤ a.ty ∧ a.ty ≤ 5) && (match ups a.nm with
  | [] => true
  | p :: _ => match fnd L p with
    | none => false
    | some b => (b.ty == a.ty) && decide (b.dy ≤ a.dy) && (!b.cl || a.cl))
section
set_option maxRecDepth 100000 in
set_option maxHeartbeats 8000000 in
theorem rfits_any {W : World} {d n c : Nat} {p : Option Addr} {L : List Ac} (hc : W.cell? ⟨d, 0, none⟩ = some (.slice p n c)) (hl : Lies kA W p L) (hn : L.length = n) (hn1 : n ≤ 4611686018427387904) (a : Ac) (hsz : (txN a.nm).size < 4611686018427387904) :
    Calls Tryz.prog 78 #[ptr d, acV a] W fun e w' => e = .returned (.bool (rfitB L a)) ∧ Below W.heap.size W w' := by
  obtain ⟨F, hF⟩ : ∃ F, F = rfitB L a := ⟨_, rfl⟩
  rw [← hF]
  have hd := World.block_lt_of_cell? W _ hc
  have HBX : Hid (∀ Y, Below (W.heap.size + 1) (W.alloc (.cells #[.string (txN a.nm), .int .i64 a.ty, .int .i64 a.dy, .bool a.cl] 65)) Y → (Y.cell? ⟨W.heap.size, 0, none⟩ = some (.string (txN a.nm)) ∧ Y.cell? ⟨W.heap.size, 1, none⟩ = some (.int .i64 a.ty) ∧ Y.cell? ⟨W.heap.size, 2, none⟩ = some (.int .i64 a.dy) ∧ Y.cell? ⟨W.heap.size, 3, none⟩ = some (.bool a.cl)) ∧ Below W.heap.size W Y ∧ Y.cell? ⟨d, 0, none⟩ = some (.slice p n c)) := fun Y hb => by
    have r1 : Y.heap[W.heap.size]? = some (.cells #[.string (txN a.nm), .int .i64 a.ty, .int .i64 a.dy, .bool a.cl] 65) := (hb.block W.heap.size (by omega)).trans (World.alloc_heap_new W _)
    have h1 : Below W.heap.size W Y := ((Below.refl _ W).alloc (Nat.le_refl _) _).trans (hb.mono (by omega))
    exact ⟨⟨cell_of r1 rfl, cell_of r1 rfl, cell_of r1 rfl, cell_of r1 rfl⟩, h1, (h1.cell (p := ⟨d, 0, none⟩) hd).trans hc⟩
  have dG := hide (rgood_any (txN a.nm) hsz)
  have dD := hide (ris_any a.dy)
  have dP := hide (rparent_any (txN a.nm) hsz)
  rw [txN_list] at dG dP
  have HL := hide hl; have HN := hide hn
  obtain ⟨W1, hW1⟩ : ∃ W1, W1 = W.alloc (.cells #[.string (txN a.nm), .int .i64 a.ty, .int .i64 a.dy, .bool a.cl] 65) := ⟨_, rfl⟩
  have HW1 := hide hW1
  have zz1 : W1.heap.size = W.heap.size + 1 := by rw [hW1]; simp
  rw [← hW1] at HBX
  have h1x := unhide HBX W1 (Below.refl _ _)
  have k0 := h1x.1.1; have k1 := h1x.1.2.1; have k2 := h1x.1.2.2.1; have k3 := h1x.1.2.2.2
  have B1 := hide h1x.2.1
  unfold rfitB at hF
  clear hc hl hn hW1 h1x
  unfold acV
  cases hnm : nameL a.nm with
  | false =>
    have e1 : F = false := by rw [hF, hnm]; rfl
    rw [hnm] at dG
    subst e1
    clear hF hnm dD dP
    cases hdd : decide (1 ≤ a.dy ∧ a.dy ≤ 3652059) <;>
    · have dD := hide (ris_any a.dy)
      rw [hdd] at dD
      clear hdd
      as_aux_lemma =>
        go_enter Tryz.func78, Tryz.ntmps78
        go_wp2_with (first | (go_at_call 86; rw [← unhide HW1]; refine (unhide dG _).mono ?_; rintro e X ⟨rfl, hX⟩; rw [hX]; clear hX) | (go_at_call 87; refine (unhide dD _).mono ?_; rintro e X2 ⟨rfl, hX⟩; rw [hX]; clear hX))
        go_ret
        exact ⟨rfl, unhide B1⟩
  | true =>
    rw [hnm] at dG
    have hF1 : F = (decide (1 ≤ a.dy ∧ a.dy ≤ 3652059) && decide (1 ≤ a.ty ∧ a.ty ≤ 5) && (match ups a.nm with
      | [] => true
      | p :: _ => match fnd L p with
        | none => false
        | some b => (b.ty == a.ty) && decide (b.dy ≤ a.dy) && (!b.cl || a.cl))) := by rw [hF, hnm]; rfl
    clear hF
    cases hdd : decide (1 ≤ a.dy ∧ a.dy ≤ 3652059) with
    | false =>
      have e1 : F = false := by rw [hF1, hdd]; rfl
      rw [hdd] at dD
      subst e1
      clear hF1 hdd hnm
      as_aux_lemma =>
        go_enter Tryz.func78, Tryz.ntmps78
        go_wp2_with (first | (go_at_call 86; rw [← unhide HW1]; refine (unhide dG _).mono ?_; rintro e X ⟨rfl, hX⟩; rw [hX]; clear hX) | (go_at_call 87; refine (unhide dD _).mono ?_; rintro e X2 ⟨rfl, hX⟩; rw [hX]; clear hX))
        go_ret
        exact ⟨rfl, unhide B1⟩
    | true =>
      rw [hdd] at dD hF1
      rw [Bool.true_and] at hF1
      clear hdd
      by_cases ht1 : a.ty < 1
      · have e1 : F = false := by rw [hF1, decide_eq_false (by omega)]; rfl
        subst e1
        clear hF1 hnm
        as_aux_lemma =>
          go_enter Tryz.func78, Tryz.ntmps78
          go_wp2_with (first | (go_at_call 86; rw [← unhide HW1]; refine (unhide dG _).mono ?_; rintro e X ⟨rfl, hX⟩; rw [hX]; clear hX) | (go_at_call 87; refine (unhide dD _).mono ?_; rintro e X2 ⟨rfl, hX⟩; rw [hX]; clear hX))
          go_ret
          exact ⟨rfl, unhide B1⟩
      by_cases ht5 : 5 < a.ty
      · have e1 : F = false := by rw [hF1, decide_eq_false (by omega)]; rfl
        subst e1
        clear hF1 hnm
        as_aux_lemma =>
          go_enter Tryz.func78, Tryz.ntmps78
          go_wp2_with (first | (go_at_call 86; rw [← unhide HW1]; refine (unhide dG _).mono ?_; rintro e X ⟨rfl, hX⟩; rw [hX]; clear hX) | (go_at_call 87; refine (unhide dD _).mono ?_; rintro e X2 ⟨rfl, hX⟩; rw [hX]; clear hX))
          go_ret
          exact ⟨rfl, unhide B1⟩
      rw [decide_eq_true (show 1 ≤ a.ty ∧ a.ty ≤ 5 by omega), Bool.true_and] at hF1
      rcases ups_cases a.nm with e | ⟨p2, e, hp2, _⟩
      · rw [e] at hF1
        have e1 : F = true := hF1
        have hps : parS a.nm = (⟨#[]⟩, false) := by rw [parS, if_pos hnm, e]
        rw [hps] at dP
        subst e1
        clear hF1 hnm hps e
        as_aux_lemma =>
          go_enter Tryz.func78, Tryz.ntmps78
          go_wp2_with (first | (go_at_call 86; rw [← unhide HW1]; refine (unhide dG _).mono ?_; rintro e X ⟨rfl, hX⟩; rw [hX]; clear hX) | (go_at_call 87; refine (unhide dD _).mono ?_; rintro e X2 ⟨rfl, hX⟩; rw [hX]; clear hX) | (go_at_call 89; refine (unhide dP _).mono ?_; rintro e Y ⟨rfl, hb⟩; have BF := hide ((unhide B1).trans (hb.mono (unhide B1).size)); clear hb))
          go_ret
          exact ⟨rfl, unhide BF⟩
      · rw [e] at hF1
        change F = (match fnd L p2 with | none => false | some b => (b.ty == a.ty) && decide (b.dy ≤ a.dy) && (!b.cl || a.cl)) at hF1
        have hps : parS a.nm = (txN p2, true) := by rw [parS, if_pos hnm, e]
        rw [hps] at dP
        have dA : Hid (∀ Y, Below (W.heap.size + 1) W1 Y → Calls Tryz.prog 88 #[ptr d, .string (txN p2)] Y fun e w' => (∃ r, e = .returned (.int .i64 r) ∧ AtOut L p2 r) ∧ w' = Y) := fun Y hY => by
          have h1 := unhide HBX Y hY
          have h2 := rat_raw h1.2.2 ((unhide HL).below h1.2.1) (unhide HN) hn1 (txN p2)
          rw [txN_list] at h2
          exact h2
        clear hps e hnm
        go_enter Tryz.func78, Tryz.ntmps78
        go_upto_region 8 with (first | (go_at_call 86; rw [← unhide HW1]; refine (unhide dG _).mono ?_; rintro e X ⟨rfl, hX⟩; rw [hX]; clear hX) | (go_at_call 87; refine (unhide dD _).mono ?_; rintro e X2 ⟨rfl, hX⟩; rw [hX]; clear hX) | (go_at_call 89; refine (unhide dP _).mono ?_; rintro e Y ⟨rfl, hb⟩; have BY := hide hb; clear hb))
        have hbY : Below (W.heap.size + 1) W1 Y := (unhide BY).mono (by omega)
        have hy := unhide HBX Y hbY
        have y0 := hy.1.1; have y1 := hy.1.2.1; have y2 := hy.1.2.2.1; have y3 := hy.1.2.2.2; have yd := hy.2.2
        have HY := hide hy.2.1
        have HA := hide (unhide dA Y hbY)
        clear hy k0 k1 k2 k3 dG dD dP dA hbY
        go_upto_region 9 with (go_at_call 88; refine (unhide HA).mono ?_; rintro e X4 ⟨⟨r, rfl, ho⟩, hX⟩; rw [hX]; clear hX)
        rcases ho with ⟨i, hi, rfl, hf⟩ | ⟨rfl, hf⟩
        · rw [hf] at hF1
          have hF2 : F = ((L[i].ty == a.ty) && decide (L[i].dy ≤ a.dy) && (!L[i].cl || a.cl)) := hF1
          obtain ⟨b, off, hp9, _, _⟩ := (unhide HL).2 i hi
          subst hp9
          have hc4 := acc_cells4 (unhide HL) hi (unhide HY)
          have c1 := hc4.2.1; have c2 := hc4.2.2.1; have c3 := hc4.2.2.2
          have hin : i < n := by rw [← unhide HN]; exact hi
          have hi0 : (0 : Int) ≤ (i : Int) := by omega
          obtain ⟨q, hq⟩ : ∃ q, q = L[i] := ⟨_, rfl⟩
          rw [← hq] at c1 c2 c3 hF2
          clear hF1 hf hq hc4 HA
          by_cases g1 : q.ty = a.ty
          · rw [g1] at c1
            by_cases g2 : q.dy ≤ a.dy
            · have g2b : decide (q.dy ≤ a.dy) = true := decide_eq_true g2
              cases g3 : q.cl with
              | false =>
                have e1 : F = true := by rw [hF2, g1, g2b, g3]; simp
                rw [g3] at c3
                subst e1
                clear hF2 g3
                as_aux_lemma =>
                  go_wp2_with fail
                  go_quiet (fail)
                  go_wp2_with fail
                  go_ret
                  exact ⟨rfl, below_drewN (unhide HY) _⟩
              | true =>
                rw [g3] at c3
                cases g4 : a.cl with
                | false =>
                  have e1 : F = false := by rw [hF2, g1, g2b, g3, g4]; simp
                  rw [g4] at y3
                  subst e1
                  clear hF2 g3 g4
                  as_aux_lemma =>
                    go_wp2_with fail
                    go_quiet (fail)
                    go_wp2_with fail
                    go_ret
                    exact ⟨rfl, below_drewN (unhide HY) _⟩
                | true =>
                  have e1 : F = true := by rw [hF2, g1, g2b, g3, g4]; simp
                  rw [g4] at y3
                  subst e1
                  clear hF2 g3 g4
                  as_aux_lemma =>
                    go_wp2_with fail
                    go_quiet (fail)
                    go_wp2_with fail
                    go_ret
                    exact ⟨rfl, below_drewN (unhide HY) _⟩
            · have g2b : decide (q.dy ≤ a.dy) = false := decide_eq_false g2
              have e1 : F = false := by rw [hF2, g1, g2b]; simp
              subst e1
              clear hF2
              as_aux_lemma =>
                go_wp2_with fail
                go_quiet (fail)
                go_wp2_with fail
                go_ret
                exact ⟨rfl, below_drewN (unhide HY) _⟩
          · have g1b : (q.ty == a.ty) = false := by simpa using g1
            have e1 : F = false := by rw [hF2, g1b]; simp
            subst e1
            clear hF2
            as_aux_lemma =>
              go_wp2_with fail
              go_quiet (fail)
              go_wp2_with fail
              go_ret
              exact ⟨rfl, below_drewN (unhide HY) _⟩
        · rw [hf] at hF1
          have e1 : F = false := hF1
          subst e1
          clear hF1 hf HA
          as_aux_lemma =>
            go_wp2_with fail
            go_quiet (fail)
            go_wp2_with fail
            go_ret
            exact ⟨rfl, below_drewN (unhide HY) _⟩
end
end Go.Proofs.YtdeibifjiefapaaGreatDoor
