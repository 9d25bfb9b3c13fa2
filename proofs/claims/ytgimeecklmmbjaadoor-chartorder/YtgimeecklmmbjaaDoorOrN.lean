/- chart: two calls on accounts apart change places; no program in it. -/
import Derived.Test.YtgimeecklmmbjaaDoorChS
import Derived.Test.YtgimeecklmmbjaaDoorTrN
namespace Go.Proofs.YtgimeecklmmbjaaDoor
open Go Go.Shelf Go.ChangeShapes Go.WideShapes Go.ChangeAt Go.RowKit Go.Maps Go.Sort
set_option linter.unusedVariables false
theorem rise_ext : ∀ {A B : List Ac}, A.Pairwise (fun a b => a.nm < b.nm) → B.Pairwise (fun a b => a.nm < b.nm) → (∀ a, a ∈ A ↔ a ∈ B) → A = B
  | [], [], _, _, _ => rfl
  | [], b :: B, _, _, h => absurd ((h b).2 (List.mem_cons_self ..)) (by simp)
  | a :: A, [], _, _, h => absurd ((h a).1 (List.mem_cons_self ..)) (by simp)
  | a :: A, b :: B, hA, hB, h => by
    rw [List.pairwise_cons] at hA hB
    have e : a = b := by
      rcases List.mem_cons.1 ((h a).1 (List.mem_cons_self ..)) with e | h1
      · exact e
      · rcases List.mem_cons.1 ((h b).2 (List.mem_cons_self ..)) with e | h2
        · exact e.symm
        · exact absurd (slt_trans (hB.1 a h1) (hA.1 b h2)) (slt_irrefl _)
    subst e
    rw [rise_ext hA.2 hB.2 (fun c => ⟨fun hc => ?_, fun hc => ?_⟩)]
    · rcases List.mem_cons.1 ((h c).1 (List.mem_cons_of_mem _ hc)) with e | h1
      · have h2 := hA.1 c hc; rw [e] at h2; exact absurd h2 (slt_irrefl _)
      · exact h1
    · rcases List.mem_cons.1 ((h c).2 (List.mem_cons_of_mem _ hc)) with e | h1
      · have h2 := hB.1 c hc; rw [e] at h2; exact absurd h2 (slt_irrefl _)
      · exact h1
theorem fnd_iff {L : List Ac} (hG : Good L) {x : Nm} {a : Ac} : fnd L x = some a ↔ a ∈ L ∧ a.nm = x :=
  ⟨fnd_some, fun ⟨h, e⟩ => by rw [← e]; exact fnd_of hG h⟩
theorem fnd_eq {L M : List Ac} (hM : Good M) {x : Nm} (h : ∀ a, a.nm = x → (a ∈ M ↔ a ∈ L)) : fnd M x = fnd L x := by
  cases hf : fnd L x with
  | none =>
    cases hg : fnd M x with
    | none => rfl
    | some b =>
      obtain ⟨h1, h2⟩ := fnd_some hg
      exact absurd ⟨b, (h b h2).1 h1, h2⟩ (fnd_none hf)
  | some a =>
    obtain ⟨h1, h2⟩ := fnd_some hf
    exact (fnd_iff hM).2 ⟨(h a h2).2 h1, h2⟩
/-- a call that changes the accounts -/
def actP (L : List Ac) (v : Av) : Prop := ansE L v = 0 ∧ (v.kind = 1 ∨ v.kind = 2)
theorem nxt_not {L : List Ac} {v : Av} (h : ¬ actP L v) : nxtL L v = L := by
  by_cases h1 : ansE L v = 0
  · have h2 : ¬ (v.kind = 1 ∨ v.kind = 2) := fun h2 => h ⟨h1, h2⟩
    unfold nxtL
    rw [if_neg (fun e => h2 (.inl e)), if_neg (fun e => h2 (.inr e))]
  · exact nxt_err (.inl h1)
/-- the account as it is behind such a call -/
def newOf (L : List Ac) (v : Av) : Ac := if v.kind = 1 then opA L v.x v.typ v.day else { findA L v.x with cl := true }
theorem act_open {L : List Ac} {v : Av} (h : actP L v) (h1 : v.kind = 1) : openE L v.x v.typ v.day = 0 ∧ nxtL L v = insA L (opA L v.x v.typ v.day) ∧ newOf L v = opA L v.x v.typ v.day := by
  have h2 := h.1
  rw [ansE, if_pos h1] at h2
  exact ⟨h2, by rw [nxtL, if_pos h1, openL, if_pos h2], by rw [newOf, if_pos h1]⟩
theorem act_close {L : List Ac} {v : Av} (h : actP L v) (h1 : v.kind ≠ 1) : closeE L v.x = 0 ∧ nxtL L v = clA L v.x ∧ newOf L v = { findA L v.x with cl := true } := by
  have h2 := h.1
  have h3 : v.kind = 2 := h.2.resolve_left h1
  rw [ansE, if_neg h1, if_pos h3] at h2
  exact ⟨h2, by rw [nxtL, if_neg h1, if_pos h3, if_pos h2], by rw [newOf, if_neg h1]⟩
theorem act_name {L : List Ac} (hG : Good L) {v : Av} (h : actP L v) : nameL v.x = true := by
  by_cases h1 : v.kind = 1
  · have := (open_fits hG (act_open h h1).1).nam
    rwa [opA_nm] at this
  · obtain ⟨a, hf, _⟩ := close_zero (act_close h h1).1
    obtain ⟨h2, h3⟩ := fnd_some hf
    rw [← h3]
    exact hG.name a h2
theorem new_nm {L : List Ac} {v : Av} (h : actP L v) : (newOf L v).nm = v.x := by
  by_cases h1 : v.kind = 1
  · rw [(act_open h h1).2.2, opA_nm]
  · obtain ⟨a, hf, _⟩ := close_zero (act_close h h1).1
    rw [(act_close h h1).2.2, findA, hf]
    exact (fnd_some hf).2
theorem mem_nxt {L : List Ac} (hG : Good L) {v : Av} (h : actP L v) {b : Ac} : b ∈ nxtL L v ↔ (b.nm ≠ v.x ∧ b ∈ L) ∨ b = newOf L v := by
  by_cases h1 : v.kind = 1
  · obtain ⟨h2, h3, h4⟩ := act_open h h1
    have hn := (open_fits hG h2).new
    rw [h3, h4, mem_insA hn]
    rw [opA_nm] at hn
    constructor
    · rintro (h | h)
      · exact .inr h
      · exact .inl ⟨fun e => hn ⟨b, h, e⟩, h⟩
    · rintro (h | h)
      · exact .inr h.2
      · exact .inl h
  · obtain ⟨h2, h3, h4⟩ := act_close h h1
    obtain ⟨a, hf, _⟩ := close_zero h2
    obtain ⟨ha, hax⟩ := fnd_some hf
    rw [h3, h4, mem_clA, findA, hf]
    constructor
    · rintro ⟨c, hc, rfl⟩
      by_cases e : c.nm = v.x
      · right
        rw [if_pos e, hG.one hc ha (e.trans hax.symm)]
        rfl
      · left
        rw [if_neg e]
        exact ⟨e, hc⟩
    · rintro (⟨e, hb⟩ | e)
      · exact ⟨b, hb, by rw [if_neg e]⟩
      · exact ⟨a, ha, by rw [if_pos hax, e]; rfl⟩
theorem nxt_other {L : List Ac} (hG : Good L) {v : Av} {a : Ac} (hn : a.nm ≠ v.x) : a ∈ nxtL L v ↔ a ∈ L := by
  by_cases h : actP L v
  · rw [mem_nxt hG h]
    constructor
    · rintro (h1 | h1)
      · exact h1.2
      · exact absurd (by rw [h1]; exact new_nm h) hn
    · exact fun h1 => .inl ⟨hn, h1⟩
  · rw [nxt_not h]
theorem nxt_fnd {L : List Ac} (hG : Good L) {v : Av} {z : Nm} (hz : z ≠ v.x) : fnd (nxtL L v) z = fnd L z :=
  fnd_eq (hG.nxt v) (fun a ha => nxt_other hG (by rw [ha]; exact hz))
theorem nxt_use {L : List Ac} (hG : Good L) {v : Av} {y : Nm} (hy : y ∉ anc v.x) : useB (nxtL L v) y = useB L y := by
  rw [Bool.eq_iff_iff]
  simp only [useB, List.any_eq_true, Bool.and_eq_true, decide_eq_true_eq, Bool.not_eq_true']
  constructor
  · rintro ⟨b, hb, h1, h2⟩
    exact ⟨b, (nxt_other hG (fun e => hy (by rw [← e]; exact h1))).1 hb, h1, h2⟩
  · rintro ⟨b, hb, h1, h2⟩
    exact ⟨b, (nxt_other hG (fun e => hy (by rw [← e]; exact h1))).2 hb, h1, h2⟩
theorem nxt_len {L : List Ac} (hG : Good L) (v : Av) : (nxtL L v).length ≤ L.length + 1 := by
  by_cases h : actP L v
  · by_cases h1 : v.kind = 1
    · obtain ⟨h2, h3, _⟩ := act_open h h1
      rw [h3, ins_len hG.rise (open_fits hG h2).new]
      exact Nat.le_refl _
    · rw [(act_close h h1).2.1, clA, List.length_map]
      omega
  · rw [nxt_not h]
    omega
/-- what a call answers does not hang on one on an account apart -/
theorem ans_same {L : List Ac} (hG : Good L) (hlen : L.length ≤ 98) {v w : Av} (h1 : v.x ∉ pathL w.x) (h2 : w.x ∉ pathL v.x) : ansE (nxtL L v) w = ansE L w := by
  by_cases ha : actP L v
  · have hx := act_name hG ha
    rw [pathL, if_pos hx, List.mem_cons, not_or] at h2
    obtain ⟨h2, h3⟩ := h2
    have hf := nxt_fnd hG (v := v) h2
    have hl := nxt_len hG v
    have hmay : ∀ z q, q ≠ v.x → mayE (nxtL L v) q z = mayE L q z := fun z q hq => by unfold mayE; rw [nxt_fnd hG hq]
    unfold ansE
    by_cases k1 : w.kind = 1
    · rw [if_pos k1, if_pos k1]
      unfold openE
      by_cases hn : nameL w.x = false
      · rw [if_pos hn, if_pos hn]
      · rw [if_neg hn, if_neg hn, hf, if_neg (show ¬ 100 ≤ (nxtL L v).length by omega), if_neg (show ¬ 100 ≤ L.length by omega)]
        rcases ups_cases w.x with e | ⟨p, e, _⟩
        · rw [e]
        · rw [e]
          have hp : p ≠ v.x := fun hpv => h1 (by rw [pathL, if_pos (by simpa using hn), e, hpv]; simp)
          simp only [hmay _ p hp]
    · rw [if_neg k1, if_neg k1]
      by_cases k2 : w.kind = 2
      · rw [if_pos k2, if_pos k2]
        unfold closeE
        rw [hf]
        cases hg : fnd L w.x with
        | none => rfl
        | some a =>
          obtain ⟨g1, g2⟩ := fnd_some hg
          have hne : w.x ≠ [] := by rw [← g2]; exact name_ne (hG.name a g1)
          have hu : w.x ∉ anc v.x := by
            rw [anc, List.mem_append, not_or]
            exact ⟨h3, by simpa using hne⟩
          simp only [nxt_use hG hu]
      · rw [if_neg k2, if_neg k2]
        by_cases k3 : w.kind = 3
        · rw [if_pos k3, if_pos k3]
          exact hmay _ _ h2
        · rw [if_neg k3, if_neg k3]
  · rw [nxt_not ha]
theorem new_same {L : List Ac} (hG : Good L) {v w : Av} (hv : actP L v) (hw : actP L w) (h1 : v.x ∉ pathL w.x) (h2 : w.x ≠ v.x) : newOf (nxtL L v) w = newOf L w := by
  unfold newOf
  by_cases k1 : w.kind = 1
  · rw [if_pos k1, if_pos k1]
    unfold opA
    rcases ups_cases w.x with e | ⟨p, e, _⟩
    · rw [e]
    · rw [e]
      have hp : p ≠ v.x := fun hpv => h1 (by rw [pathL, if_pos (act_name hG hw), e, hpv]; simp)
      simp only [findA, nxt_fnd hG hp]
  · rw [if_neg k1, if_neg k1, findA, findA, nxt_fnd hG h2]
/-- two calls on accounts apart change places -/
theorem nxt_swap {L : List Ac} (hG : Good L) (hlen : L.length ≤ 98) {v w : Av} (h1 : v.x ∉ pathL w.x) (h2 : w.x ∉ pathL v.x) : nxtL (nxtL L v) w = nxtL (nxtL L w) v := by
  have e1 := ans_same hG hlen h1 h2
  have e2 := ans_same hG hlen h2 h1
  by_cases a1 : actP L v
  · by_cases a2 : actP L w
    · have b1 : actP (nxtL L w) v := ⟨by rw [e2]; exact a1.1, a1.2⟩
      have b2 : actP (nxtL L v) w := ⟨by rw [e1]; exact a2.1, a2.2⟩
      have hne : w.x ≠ v.x := fun e => h2 (by rw [pathL, if_pos (act_name hG a1), e]; simp)
      refine rise_ext ((hG.nxt v).nxt w).rise ((hG.nxt w).nxt v).rise (fun b => ?_)
      rw [mem_nxt (hG.nxt v) b2, mem_nxt (hG.nxt w) b1, mem_nxt hG a1, mem_nxt hG a2, new_same hG a1 a2 h1 hne, new_same hG a2 a1 h2 hne.symm]
      constructor
      · rintro (⟨g1, g2 | g2⟩ | g)
        · exact .inl ⟨g2.1, .inl ⟨g1, g2.2⟩⟩
        · exact .inr g2
        · exact .inl ⟨by rw [g, new_nm a2]; exact hne, .inr g⟩
      · rintro (⟨g1, g2 | g2⟩ | g)
        · exact .inl ⟨g2.1, .inl ⟨g1, g2.2⟩⟩
        · exact .inr g2
        · exact .inl ⟨by rw [g, new_nm a1]; exact hne.symm, .inr g⟩
    · rw [nxt_not a2, nxt_not (fun b => a2 ⟨by rw [← e1]; exact b.1, b.2⟩)]
  · rw [nxt_not a1, nxt_not (fun b => a1 ⟨by rw [← e2]; exact b.1, b.2⟩)]
end Go.Proofs.YtgimeecklmmbjaaDoor
