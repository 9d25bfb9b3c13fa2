import Derived.Test.YtdeibifjiefapaaGreatDoorW17
/- chart: Open (15). -/
namespace Go.Proofs.YtdeibifjiefapaaGreatDoor
open Go Go.Shelf Go.ChangeShapes Go.WideShapes Go.ChangeAt Go.RowKit Go.Maps Go.Sort
set_option linter.unusedVariables false
/-- what Open answers -/
def openE (L : List Ac) (x : Nm) (t z : Int) : Int :=
  if nameL x = false then 60
  else if ¬ (1 ≤ z ∧ z ≤ 3652059) ∨ (t ≠ 0 ∧ ¬ (1 ≤ t ∧ t ≤ 5)) then 1
  else if (fnd L x).isSome = true then 62
  else if 100 ≤ L.length then 2
  else match ups x with
    | [] => if t = 0 then 64 else 0
    | p :: _ => if t ≠ 0 then 64 else mayE L p z
/-- the account that it opens -/
def opA (L : List Ac) (x : Nm) (t z : Int) : Ac := match ups x with
  | [] => ⟨x, t, z, false⟩
  | p :: _ => ⟨x, (findA L p).ty, z, false⟩
def openL (L : List Ac) (x : Nm) (t z : Int) : List Ac := if openE L x t z = 0 then insA L (opA L x t z) else L
theorem opA_nm (L : List Ac) (x : Nm) (t z : Int) : (opA L x t z).nm = x := by unfold opA; split <;> rfl
theorem may_ok {L : List Ac} {p : Nm} {z : Int} (h : mayE L p z = 0) : ∃ b, fnd L p = some b ∧ b.cl = false ∧ b.dy ≤ z := by
  unfold mayE at h
  cases hf : fnd L p with
  | none => rw [hf] at h; exact absurd (show (61 : Int) = 0 from h) (by decide)
  | some b =>
    rw [hf] at h
    simp only at h
    by_cases h1 : b.cl = true
    · rw [if_pos h1] at h; exact absurd h (by decide)
    · rw [if_neg h1] at h
      by_cases h2 : z < b.dy
      · rw [if_pos h2] at h; exact absurd h (by decide)
      · exact ⟨b, rfl, by simpa using h1, by omega⟩
theorem open_fits {L : List Ac} (hG : Good L) {x : Nm} {t z : Int} (h : openE L x t z = 0) : Fits L (opA L x t z) := by
  unfold openE at h
  by_cases h1 : nameL x = false
  · rw [if_pos h1] at h; exact absurd h (by decide)
  rw [if_neg h1] at h
  by_cases h2 : ¬ (1 ≤ z ∧ z ≤ 3652059) ∨ (t ≠ 0 ∧ ¬ (1 ≤ t ∧ t ≤ 5))
  · rw [if_pos h2] at h; exact absurd h (by decide)
  rw [if_neg h2] at h
  by_cases h3 : (fnd L x).isSome = true
  · rw [if_pos h3] at h; exact absurd h (by decide)
  rw [if_neg h3] at h
  by_cases h4 : 100 ≤ L.length
  · rw [if_pos h4] at h; exact absurd h (by decide)
  rw [if_neg h4] at h
  have hn : nameL x = true := by simpa using h1
  have hnew : ¬ ∃ b ∈ L, b.nm = x := fun hex => by
    cases hf : fnd L x with
    | none => exact fnd_none hf hex
    | some b => rw [hf] at h3; exact h3 rfl
  have hz : 1 ≤ z ∧ z ≤ 3652059 := by
    by_cases hz : 1 ≤ z ∧ z ≤ 3652059
    · exact hz
    · exact absurd (.inl hz) h2
  rcases ups_cases x with e | ⟨p, e, _⟩
  · rw [e] at h
    have ht : t ≠ 0 := fun h0 => by
      have h' : (if t = 0 then (64 : Int) else 0) = 0 := h
      rw [if_pos h0] at h'
      exact absurd h' (by decide)
    have e1 : opA L x t z = ⟨x, t, z, false⟩ := by rw [opA, e]
    rw [e1]
    refine ⟨hnew, hn, hz, ?_, fun p s e2 => ?_, by omega⟩
    · by_cases hr : 1 ≤ t ∧ t ≤ 5
      · exact hr
      · exact absurd (.inr ⟨ht, hr⟩) h2
    · have e2' : ups x = p :: s := e2
      rw [e] at e2'
      cases e2'
  · rw [e] at h
    have ht : t = 0 := by
      by_cases h0 : t = 0
      · exact h0
      · simp only [if_pos h0] at h
        exact absurd h (by decide)
    have hm : mayE L p z = 0 := by
      simp only [ht] at h
      simpa using h
    obtain ⟨b, hb, hcl, hdy⟩ := may_ok hm
    obtain ⟨hbL, hbp⟩ := fnd_some hb
    have hfa : findA L p = b := by rw [findA, hb]; rfl
    have e1 : opA L x t z = ⟨x, b.ty, z, false⟩ := by rw [opA, e]; show (⟨x, (findA L p).ty, z, false⟩ : Ac) = _; rw [hfa]
    rw [e1]
    refine ⟨hnew, hn, hz, hG.typ b hbL, fun q s e2 => ?_, by omega⟩
    have e2' : ups x = q :: s := e2
    rw [e] at e2'
    injection e2' with e3 e4
    exact ⟨b, hbL, hbp.trans e3, rfl, hdy, fun hc => by rw [hcl] at hc; cases hc⟩
/-- what Open leaves -/
def OpenOut (W : World) (d : Nat) (S : Nat → Prop) (L : List Ac) (x : Nm) (t z : Int) (w' : World) : Prop := Chg W d S (openL L x t z) w'
theorem open_no {W w' : World} {d : Nat} {S : Nat → Prop} {L : List Ac} {g : Gh} {x : Nm} {t z E : Int} (h : Ct W d S L g) (hE : openE L x t z = E) (h0 : E ≠ 0) (hb : Below W.heap.size W w') : OpenOut W d S L x t z w' := by
  unfold OpenOut openL
  rw [if_neg (by rw [hE]; exact h0)]
  exact Chg.below h hb
theorem open_yes {W X w' : World} {d : Nat} {S S' : Nat → Prop} {L : List Ac} {g g' : Gh} {x : Nm} {t z : Int} (h : Ct W d S L g) (hE : openE L x t z = 0) (hb : Below W.heap.size W X) (hp : PutOut X d S (insA L (opA L x t z)) w' S' g') : OpenOut W d S L x t z w' := by
  unfold OpenOut openL
  rw [if_pos hE]
  refine ⟨S', g', ⟨hp.ch, h.good.ins (open_fits h.good hE), hp.inh⟩, fun k hk => (hp.old k hk).imp (fun h => h) (fun h1 => Nat.le_trans hb.size h1), ⟨hp.fr.os.trans hb.os, hp.fr.tape.trans hb.tape, hp.fr.output.trans hb.output, Nat.le_trans hb.size hp.fr.size, fun k hk hs => (hp.fr.block k (Nat.lt_of_lt_of_le hk hb.size) hs).trans (hb.block k hk)⟩⟩

set_option maxRecDepth 100000 in
set_option maxHeartbeats 8000000 in
theorem open_any {W : World} {d : Nat} {S : Nat → Prop} {L : List Ac} {g : Gh} (h : Ct W d S L g) (tx : ByteArray) (htx : tx.size < 4611686018427387904) (t z : Int) (ht : -9223372036854775808 ≤ t ∧ t ≤ 9223372036854775807) :
    Calls Tryz.prog 16 #[ptr d, .string tx, .int .i64 t, .int .i64 z] W fun e w' => e = .returned (.int .i64 (openE L tx.data.toList t z)) ∧ OpenOut W d S L tx.data.toList t z w' := by
  obtain ⟨x, hx⟩ : ∃ x, x = tx.data.toList := ⟨_, rfl⟩
  have htn : tx = txN x := text_of hx.symm
  have dG := hide (good_any tx htx)
  have dD := hide (isDay_any z)
  have dT := hide (isType_any t)
  have dP := hide (parent_any tx htx)
  have dS := hide (fun X (hb : Below W.heap.size W X) => seek_any (h.below hb).ch h.good (h.below hb).inh tx htx)
  have dC := hide (fun X (hb : Below W.heap.size W X) => count_any (h.below hb).ch h.good)
  rw [← hx] at dG dP dS ⊢
  have HC := hide h
  have h100 := h.good.len
  have HTN := hide htn
  obtain ⟨E, hE⟩ : ∃ E, E = openE L x t z := ⟨_, rfl⟩
  rw [← hE]
  have HE : Hid (openE L x t z = E) := hE.symm
  have hE2 : E = (if nameL x = false then (60 : Int) else if ¬ (1 ≤ z ∧ z ≤ 3652059) ∨ (t ≠ 0 ∧ ¬ (1 ≤ t ∧ t ≤ 5)) then 1 else if (fnd L x).isSome = true then 62 else if 100 ≤ L.length then 2 else match ups x with
    | [] => if t = 0 then 64 else 0
    | p :: _ => if t ≠ 0 then 64 else mayE L p z) := hE
  clear h hx htn hE
  cases hn : nameL x with
  | false =>
    have e1 : E = 60 := by rw [hE2, if_pos hn]
    subst e1
    rw [hn] at dG
    clear hn hE2
    go_enter Tryz.func16, Tryz.ntmps16
    go_wp2_with (go_at_call 80; refine (unhide dG _).mono ?_; rintro e X ⟨rfl, hb⟩; have HB := hide hb; clear hb)
    go_ret
    exact ⟨rfl, open_no (unhide HC) (unhide HE) (by decide) (unhide HB)⟩
  | true =>
    rw [hn] at dG
    rw [if_neg (by rw [hn]; decide)] at hE2
    have hnn := hn
    clear hn
    by_cases hz : 1 ≤ z ∧ z ≤ 3652059
    · rw [decide_eq_true hz] at dD
      by_cases ht0 : t = 0
      · subst ht0
        rw [if_neg (by rintro (h1 | h1); exact h1 hz; exact h1.1 rfl)] at hE2
        cases hf : fnd L x with
        | some b =>
          have e1 : E = 62 := by rw [hE2, hf]; rfl
          subst e1
          rw [seek_some hf] at dS
          obtain ⟨nx, hnx⟩ : ∃ nx, nx = g.nd x := ⟨_, rfl⟩
          rw [← hnx] at dS
          clear hE2 hnx hf hz
          go_enter Tryz.func16, Tryz.ntmps16
          go_upto_region 3 with (go_at_call 80; refine (unhide dG _).mono ?_; rintro e X ⟨rfl, hb⟩; have HB := hide hb; clear hb)
          go_upto_region 5 with (first | (go_at_call 81; refine (unhide dD _).mono ?_; rintro e X9 ⟨rfl, hX9⟩; rw [hX9]; clear hX9 X9) | (go_at_call 82; refine (unhide dT _).mono ?_; rintro e X9 ⟨rfl, hX9⟩; rw [hX9]; clear hX9 X9))
          have dS1 := hide (unhide dS X (unhide HB))
          go_wp2_with (go_at_call 83; refine (unhide dS1).mono ?_; rintro e X2 ⟨rfl, hb⟩; have HB2 : Hid (Below W.heap.size W X2) := (unhide HB).trans (hb.mono (unhide HB).size); clear hb)
          go_ret
          exact ⟨rfl, open_no (unhide HC) (unhide HE) (by decide) (unhide HB2)⟩
        | none =>
          rw [seek_none hf] at dS
          rw [hf, if_neg (by decide)] at hE2
          by_cases hmany : 100 ≤ L.length
          · have e1 : E = 2 := by rw [hE2, if_pos hmany]
            subst e1
            have hm2 : (100 : Int) ≤ (L.length : Int) := by omega
            clear hE2 hf hz hmany
            go_enter Tryz.func16, Tryz.ntmps16
            go_upto_region 3 with (go_at_call 80; refine (unhide dG _).mono ?_; rintro e X ⟨rfl, hb⟩; have HB := hide hb; clear hb)
            go_upto_region 5 with (first | (go_at_call 81; refine (unhide dD _).mono ?_; rintro e X9 ⟨rfl, hX9⟩; rw [hX9]; clear hX9 X9) | (go_at_call 82; refine (unhide dT _).mono ?_; rintro e X9 ⟨rfl, hX9⟩; rw [hX9]; clear hX9 X9))
            have dS1 := hide (unhide dS X (unhide HB))
            go_upto_region 7 with (go_at_call 83; refine (unhide dS1).mono ?_; rintro e X2 ⟨rfl, hb⟩; have HB2 : Hid (Below W.heap.size W X2) := (unhide HB).trans (hb.mono (unhide HB).size); clear hb)
            have dC1 := hide (unhide dC X2 (unhide HB2))
            go_wp2_with (go_at_call 84; refine (unhide dC1).mono ?_; rintro e X3 ⟨rfl, hb⟩; have HB3 : Hid (Below W.heap.size W X3) := (unhide HB2).trans (hb.mono (unhide HB2).size); clear hb)
            go_ret
            exact ⟨rfl, open_no (unhide HC) (unhide HE) (by decide) (unhide HB3)⟩
          · rw [if_neg hmany] at hE2
            have hm2 : ¬ (100 : Int) ≤ (L.length : Int) := by omega
            rcases ups_cases x with e | ⟨p, e, _⟩
            · have e1 : parS x = (⟨#[]⟩, false) := by rw [parS, if_pos hnn, e]
              rw [e1] at dP
              rw [e] at hE2
              have e2 : E = 64 := hE2
              subst e2
              clear hE2 hf hz hmany e e1
              go_enter Tryz.func16, Tryz.ntmps16
              go_upto_region 3 with (go_at_call 80; refine (unhide dG _).mono ?_; rintro e X ⟨rfl, hb⟩; have HB := hide hb; clear hb)
              go_upto_region 5 with (first | (go_at_call 81; refine (unhide dD _).mono ?_; rintro e X9 ⟨rfl, hX9⟩; rw [hX9]; clear hX9 X9) | (go_at_call 82; refine (unhide dT _).mono ?_; rintro e X9 ⟨rfl, hX9⟩; rw [hX9]; clear hX9 X9))
              have dS1 := hide (unhide dS X (unhide HB))
              go_upto_region 7 with (go_at_call 83; refine (unhide dS1).mono ?_; rintro e X2 ⟨rfl, hb⟩; have HB2 : Hid (Below W.heap.size W X2) := (unhide HB).trans (hb.mono (unhide HB).size); clear hb)
              have dC1 := hide (unhide dC X2 (unhide HB2))
              go_upto_region 9 with (go_at_call 84; refine (unhide dC1).mono ?_; rintro e X3 ⟨rfl, hb⟩; have HB3 : Hid (Below W.heap.size W X3) := (unhide HB2).trans (hb.mono (unhide HB2).size); clear hb)
              go_upto_region 10 with (go_at_call 85; refine (unhide dP _).mono ?_; rintro e X4 ⟨rfl, hb⟩; have HB4 : Hid (Below W.heap.size W X4) := (unhide HB3).trans (hb.mono (unhide HB3).size); clear hb)
              go_wp2
              go_ret
              exact ⟨rfl, open_no (unhide HC) (unhide HE) (by decide) (unhide HB4)⟩
            · have e1 : parS x = (⟨p.toArray⟩, true) := by rw [parS, if_pos hnn, e]
              rw [e1] at dP
              rw [e] at hE2
              have e2 : E = mayE L p z := by
                have h' : E = if (0 : Int) ≠ 0 then (64 : Int) else mayE L p z := hE2
                rw [h', if_neg (by decide)]
              have hps : (txN p).size < 4611686018427387904 := by
                have h1 : p.length < x.length := by
                  have := par_lt (name_ne hnn)
                  rw [par, e] at this
                  exact this
                have h2 : tx.size = x.length := by rw [unhide HTN]; show x.toArray.size = _; simp
                show p.toArray.size < _
                simp
                omega
              have dM := hide (fun X (hb : Below W.heap.size W X) => may_any ((unhide HC).below hb) (txN p) hps z)
              rw [txN_list, ← e2] at dM
              by_cases hE0 : E = 0
              · have hE00 : mayE L p z = 0 := e2.symm.trans hE0
                obtain ⟨b, hfb, _, _⟩ := may_ok hE00
                have hfa : findA L p = b := by rw [findA, hfb]; rfl
                have ea : opA L x 0 z = ⟨x, b.ty, z, false⟩ := by rw [opA, e]; show (⟨x, (findA L p).ty, z, false⟩ : Ac) = _; rw [hfa]
                have HE0 : Hid (openE L x 0 z = 0) := by show _ = _; rw [unhide HE]; exact hE0
                have dU := hide (fun X (hb : Below W.heap.size W X) => put_any ((unhide HC).below hb).ch (unhide HC).good ((unhide HC).below hb).inh (open_fits (unhide HC).good (unhide HE0)))
                rw [ea, ← unhide HTN] at dU
                have dSp := hide (fun X (hb : Below W.heap.size W X) => seek_any ((unhide HC).below hb).ch (unhide HC).good ((unhide HC).below hb).inh (txN p) hps)
                rw [txN_list, seek_some hfb] at dSp
                have hnd := (unhide HC).node hfb
                obtain ⟨np, hnp⟩ : ∃ np, np = g.nd p := ⟨_, rfl⟩
                rw [← hnp] at hnd dSp
                have HND := hide hnd
                have HEA := hide ea
                subst hE0
                clear hE2 hf hz hmany e e1 ea e2 hE00 hfb hfa hnp hnd
                go_enter Tryz.func16, Tryz.ntmps16
                go_upto_region 3 with (go_at_call 80; refine (unhide dG _).mono ?_; rintro e X ⟨rfl, hb⟩; have HB := hide hb; clear hb)
                go_upto_region 5 with (first | (go_at_call 81; refine (unhide dD _).mono ?_; rintro e X9 ⟨rfl, hX9⟩; rw [hX9]; clear hX9 X9) | (go_at_call 82; refine (unhide dT _).mono ?_; rintro e X9 ⟨rfl, hX9⟩; rw [hX9]; clear hX9 X9))
                have dS1 := hide (unhide dS X (unhide HB))
                go_upto_region 7 with (go_at_call 83; refine (unhide dS1).mono ?_; rintro e X2 ⟨rfl, hb⟩; have HB2 : Hid (Below W.heap.size W X2) := (unhide HB).trans (hb.mono (unhide HB).size); clear hb)
                have dC1 := hide (unhide dC X2 (unhide HB2))
                go_upto_region 9 with (go_at_call 84; refine (unhide dC1).mono ?_; rintro e X3 ⟨rfl, hb⟩; have HB3 : Hid (Below W.heap.size W X3) := (unhide HB2).trans (hb.mono (unhide HB2).size); clear hb)
                go_upto_region 10 with (go_at_call 85; refine (unhide dP _).mono ?_; rintro e X4 ⟨rfl, hb⟩; have HB4 : Hid (Below W.heap.size W X4) := (unhide HB3).trans (hb.mono (unhide HB3).size); clear hb)
                go_upto_region 13 with fail
                have dM4 := hide (unhide dM X4 (unhide HB4))
                go_upto_region 16 with (go_at_call 20; refine (unhide dM4).mono ?_; rintro e X5 ⟨rfl, hb⟩; have HB5 : Hid (Below W.heap.size W X5) := (unhide HB4).trans (hb.mono (unhide HB4).size); clear hb)
                have dS5 := hide (unhide dSp X5 (unhide HB5))
                have hty6 : Hid (∀ X6, Below W.heap.size W X6 → X6.cell? ⟨np, 1, none⟩ = some (.int .i64 b.ty)) := fun X6 hb => cell_of ((hb.block np (Array.getElem?_eq_some_iff.1 (unhide HND)).1).trans (unhide HND)) rfl
                go_upto_region 17 with (go_at_call 83; refine (unhide dS5).mono ?_; rintro e X6 ⟨rfl, hb⟩; have HB6 : Hid (Below W.heap.size W X6) := (unhide HB5).trans (hb.mono (unhide HB5).size); have c1 := unhide hty6 X6 (unhide HB6); clear hb)
                have dU6 := hide (unhide dU X6 (unhide HB6))
                go_wp2_with (go_at_call 77; refine (unhide dU6).mono ?_; rintro e X7 ⟨rfl, S', g', hp⟩; have HP := hide hp; clear hp)
                go_ret
                refine ⟨rfl, open_yes (S' := S') (g' := g') (unhide HC) (unhide HE0) (unhide HB6) ?_⟩
                rw [unhide HEA]
                exact unhide HP
              · have hE1 : (E == 0) = false := by simp [hE0]
                have hE3 : (E != 0) = true := by simp [hE0]
                have HE0 := hide hE0
                clear hE2 hf hz hmany e e1 e2
                go_enter Tryz.func16, Tryz.ntmps16
                go_upto_region 3 with (go_at_call 80; refine (unhide dG _).mono ?_; rintro e X ⟨rfl, hb⟩; have HB := hide hb; clear hb)
                go_upto_region 5 with (first | (go_at_call 81; refine (unhide dD _).mono ?_; rintro e X9 ⟨rfl, hX9⟩; rw [hX9]; clear hX9 X9) | (go_at_call 82; refine (unhide dT _).mono ?_; rintro e X9 ⟨rfl, hX9⟩; rw [hX9]; clear hX9 X9))
                have dS1 := hide (unhide dS X (unhide HB))
                go_upto_region 7 with (go_at_call 83; refine (unhide dS1).mono ?_; rintro e X2 ⟨rfl, hb⟩; have HB2 : Hid (Below W.heap.size W X2) := (unhide HB).trans (hb.mono (unhide HB).size); clear hb)
                have dC1 := hide (unhide dC X2 (unhide HB2))
                go_upto_region 9 with (go_at_call 84; refine (unhide dC1).mono ?_; rintro e X3 ⟨rfl, hb⟩; have HB3 : Hid (Below W.heap.size W X3) := (unhide HB2).trans (hb.mono (unhide HB2).size); clear hb)
                go_upto_region 10 with (go_at_call 85; refine (unhide dP _).mono ?_; rintro e X4 ⟨rfl, hb⟩; have HB4 : Hid (Below W.heap.size W X4) := (unhide HB3).trans (hb.mono (unhide HB3).size); clear hb)
                go_upto_region 13 with fail
                have dM4 := hide (unhide dM X4 (unhide HB4))
                go_wp2_with (go_at_call 20; refine (unhide dM4).mono ?_; rintro e X5 ⟨rfl, hb⟩; have HB5 : Hid (Below W.heap.size W X5) := (unhide HB4).trans (hb.mono (unhide HB4).size); clear hb)
                go_ret
                exact ⟨rfl, open_no (unhide HC) (unhide HE) (unhide HE0) (unhide HB5)⟩
      · have ht1 : (t == 0) = false := by simp [ht0]
        have ht2 : (t != 0) = true := by simp [ht0]
        by_cases hty : 1 ≤ t ∧ t ≤ 5
        · rw [decide_eq_true hty] at dT
          rw [if_neg (by rintro (h1 | h1); exact h1 hz; exact h1.2 hty)] at hE2
          cases hf : fnd L x with
          | some b =>
            have e1 : E = 62 := by rw [hE2, hf]; rfl
            subst e1
            rw [seek_some hf] at dS
            obtain ⟨nx, hnx⟩ : ∃ nx, nx = g.nd x := ⟨_, rfl⟩
            rw [← hnx] at dS
            clear hE2 hnx hf hz hty
            go_enter Tryz.func16, Tryz.ntmps16
            go_upto_region 3 with (go_at_call 80; refine (unhide dG _).mono ?_; rintro e X ⟨rfl, hb⟩; have HB := hide hb; clear hb)
            go_upto_region 5 with (first | (go_at_call 81; refine (unhide dD _).mono ?_; rintro e X9 ⟨rfl, hX9⟩; rw [hX9]; clear hX9 X9) | (go_at_call 82; refine (unhide dT _).mono ?_; rintro e X9 ⟨rfl, hX9⟩; rw [hX9]; clear hX9 X9))
            have dS1 := hide (unhide dS X (unhide HB))
            go_wp2_with (go_at_call 83; refine (unhide dS1).mono ?_; rintro e X2 ⟨rfl, hb⟩; have HB2 : Hid (Below W.heap.size W X2) := (unhide HB).trans (hb.mono (unhide HB).size); clear hb)
            go_ret
            exact ⟨rfl, open_no (unhide HC) (unhide HE) (by decide) (unhide HB2)⟩
          | none =>
            rw [seek_none hf] at dS
            rw [hf, if_neg (by decide)] at hE2
            by_cases hmany : 100 ≤ L.length
            · have e1 : E = 2 := by rw [hE2, if_pos hmany]
              subst e1
              have hm2 : (100 : Int) ≤ (L.length : Int) := by omega
              clear hE2 hf hz hmany hty
              go_enter Tryz.func16, Tryz.ntmps16
              go_upto_region 3 with (go_at_call 80; refine (unhide dG _).mono ?_; rintro e X ⟨rfl, hb⟩; have HB := hide hb; clear hb)
              go_upto_region 5 with (first | (go_at_call 81; refine (unhide dD _).mono ?_; rintro e X9 ⟨rfl, hX9⟩; rw [hX9]; clear hX9 X9) | (go_at_call 82; refine (unhide dT _).mono ?_; rintro e X9 ⟨rfl, hX9⟩; rw [hX9]; clear hX9 X9))
              have dS1 := hide (unhide dS X (unhide HB))
              go_upto_region 7 with (go_at_call 83; refine (unhide dS1).mono ?_; rintro e X2 ⟨rfl, hb⟩; have HB2 : Hid (Below W.heap.size W X2) := (unhide HB).trans (hb.mono (unhide HB).size); clear hb)
              have dC1 := hide (unhide dC X2 (unhide HB2))
              go_wp2_with (go_at_call 84; refine (unhide dC1).mono ?_; rintro e X3 ⟨rfl, hb⟩; have HB3 : Hid (Below W.heap.size W X3) := (unhide HB2).trans (hb.mono (unhide HB2).size); clear hb)
              go_ret
              exact ⟨rfl, open_no (unhide HC) (unhide HE) (by decide) (unhide HB3)⟩
            · rw [if_neg hmany] at hE2
              have hm2 : ¬ (100 : Int) ≤ (L.length : Int) := by omega
              rcases ups_cases x with e | ⟨p, e, _⟩
              · have e1 : parS x = (⟨#[]⟩, false) := by rw [parS, if_pos hnn, e]
                rw [e1] at dP
                rw [e] at hE2
                have e2 : E = 0 := by
                  have h' : E = if t = 0 then (64 : Int) else 0 := hE2
                  rw [h', if_neg ht0]
                subst e2
                have ea : opA L x t z = ⟨x, t, z, false⟩ := by rw [opA, e]
                have dU := hide (fun X (hb : Below W.heap.size W X) => put_any ((unhide HC).below hb).ch (unhide HC).good ((unhide HC).below hb).inh (open_fits (unhide HC).good (unhide HE)))
                rw [ea, ← unhide HTN] at dU
                have HEA := hide ea
                clear hE2 hf hz hmany e e1 hty ea
                go_enter Tryz.func16, Tryz.ntmps16
                go_upto_region 3 with (go_at_call 80; refine (unhide dG _).mono ?_; rintro e X ⟨rfl, hb⟩; have HB := hide hb; clear hb)
                go_upto_region 5 with (first | (go_at_call 81; refine (unhide dD _).mono ?_; rintro e X9 ⟨rfl, hX9⟩; rw [hX9]; clear hX9 X9) | (go_at_call 82; refine (unhide dT _).mono ?_; rintro e X9 ⟨rfl, hX9⟩; rw [hX9]; clear hX9 X9))
                have dS1 := hide (unhide dS X (unhide HB))
                go_upto_region 7 with (go_at_call 83; refine (unhide dS1).mono ?_; rintro e X2 ⟨rfl, hb⟩; have HB2 : Hid (Below W.heap.size W X2) := (unhide HB).trans (hb.mono (unhide HB).size); clear hb)
                have dC1 := hide (unhide dC X2 (unhide HB2))
                go_upto_region 9 with (go_at_call 84; refine (unhide dC1).mono ?_; rintro e X3 ⟨rfl, hb⟩; have HB3 : Hid (Below W.heap.size W X3) := (unhide HB2).trans (hb.mono (unhide HB2).size); clear hb)
                go_upto_region 10 with (go_at_call 85; refine (unhide dP _).mono ?_; rintro e X4 ⟨rfl, hb⟩; have HB4 : Hid (Below W.heap.size W X4) := (unhide HB3).trans (hb.mono (unhide HB3).size); clear hb)
                go_upto_region 17 with fail
                have dU4 := hide (unhide dU X4 (unhide HB4))
                go_wp2_with (go_at_call 77; refine (unhide dU4).mono ?_; rintro e X5 ⟨rfl, S', g', hp⟩; have HP := hide hp; clear hp)
                go_ret
                refine ⟨rfl, open_yes (S' := S') (g' := g') (unhide HC) (unhide HE) (unhide HB4) ?_⟩
                rw [unhide HEA]
                exact unhide HP
              · have e1 : parS x = (⟨p.toArray⟩, true) := by rw [parS, if_pos hnn, e]
                rw [e1] at dP
                rw [e] at hE2
                have e2 : E = 64 := by
                  have h' : E = if t ≠ 0 then (64 : Int) else mayE L p z := hE2
                  rw [h', if_pos ht0]
                subst e2
                clear hE2 hf hz hmany e e1 hty
                go_enter Tryz.func16, Tryz.ntmps16
                go_upto_region 3 with (go_at_call 80; refine (unhide dG _).mono ?_; rintro e X ⟨rfl, hb⟩; have HB := hide hb; clear hb)
                go_upto_region 5 with (first | (go_at_call 81; refine (unhide dD _).mono ?_; rintro e X9 ⟨rfl, hX9⟩; rw [hX9]; clear hX9 X9) | (go_at_call 82; refine (unhide dT _).mono ?_; rintro e X9 ⟨rfl, hX9⟩; rw [hX9]; clear hX9 X9))
                have dS1 := hide (unhide dS X (unhide HB))
                go_upto_region 7 with (go_at_call 83; refine (unhide dS1).mono ?_; rintro e X2 ⟨rfl, hb⟩; have HB2 : Hid (Below W.heap.size W X2) := (unhide HB).trans (hb.mono (unhide HB).size); clear hb)
                have dC1 := hide (unhide dC X2 (unhide HB2))
                go_upto_region 9 with (go_at_call 84; refine (unhide dC1).mono ?_; rintro e X3 ⟨rfl, hb⟩; have HB3 : Hid (Below W.heap.size W X3) := (unhide HB2).trans (hb.mono (unhide HB2).size); clear hb)
                go_upto_region 10 with (go_at_call 85; refine (unhide dP _).mono ?_; rintro e X4 ⟨rfl, hb⟩; have HB4 : Hid (Below W.heap.size W X4) := (unhide HB3).trans (hb.mono (unhide HB3).size); clear hb)
                go_wp2
                go_ret
                exact ⟨rfl, open_no (unhide HC) (unhide HE) (by decide) (unhide HB4)⟩
        · rw [decide_eq_false hty] at dT
          have e1 : E = 1 := by rw [hE2, if_pos (.inr ⟨ht0, hty⟩)]
          subst e1
          clear hE2 hty hz
          go_enter Tryz.func16, Tryz.ntmps16
          go_upto_region 3 with (go_at_call 80; refine (unhide dG _).mono ?_; rintro e X ⟨rfl, hb⟩; have HB := hide hb; clear hb)
          go_wp2_with (first | (go_at_call 81; refine (unhide dD _).mono ?_; rintro e X2 ⟨rfl, hX2⟩; subst hX2) | (go_at_call 82; refine (unhide dT _).mono ?_; rintro e X2 ⟨rfl, hX2⟩; subst hX2))
          go_ret
          exact ⟨rfl, open_no (unhide HC) (unhide HE) (by decide) (unhide HB)⟩
    · rw [decide_eq_false hz] at dD
      have e1 : E = 1 := by rw [hE2, if_pos (.inl hz)]
      subst e1
      clear hE2 hz
      go_enter Tryz.func16, Tryz.ntmps16
      go_upto_region 3 with (go_at_call 80; refine (unhide dG _).mono ?_; rintro e X ⟨rfl, hb⟩; have HB := hide hb; clear hb)
      go_wp2_with (go_at_call 81; refine (unhide dD _).mono ?_; rintro e X2 ⟨rfl, hX2⟩; subst hX2)
      go_ret
      exact ⟨rfl, open_no (unhide HC) (unhide HE) (by decide) (unhide HB)⟩
end Go.Proofs.YtdeibifjiefapaaGreatDoor
