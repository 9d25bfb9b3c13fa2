/- chart: accounts opened in another order, then closed; no program in it. -/
import Derived.Test.YtgimeecklmmbjaaDoorOrN
namespace Go.Proofs.YtgimeecklmmbjaaDoor
open Go Go.Shelf Go.ChangeShapes Go.WideShapes Go.ChangeAt Go.RowKit Go.Maps Go.Sort
set_option linter.unusedVariables false
/-- an account not closed yet -/
def opn (a : Ac) : Ac := { a with cl := false }
/-- what is left to open, and what is open -/
structure Od (L R D : List Ac) : Prop where
  good : Good D
  sub : ∀ a ∈ R, a ∈ L
  nd : (R.map (·.nm)).Nodup
  len : R.length + D.length = L.length
  cov : ∀ a ∈ L, a ∈ R ∨ opn a ∈ D
  dn : ∀ d ∈ D, ∃ a ∈ L, d = opn a ∧ a ∉ R
theorem od_zero {L : List Ac} (hG : Good L) : Od L L [] :=
  ⟨good_nil, fun _ h => h, rise_nodup hG.names_rise, by simp, fun a h => .inl h, fun d h => by cases h⟩
/-- one whose parent is there -/
def rdy (D : List Ac) (a : Ac) : Prop := ups a.nm = [] ∨ ∃ d ∈ D, d.nm = par a.nm
theorem Od.some_rdy {L R D : List Ac} (hG : Good L) (h : Od L R D) : ∀ (n : Nat) (a : Ac), a ∈ R → a.nm.length ≤ n → ∃ b ∈ R, rdy D b
  | n, a, ha, hn => by
    rcases ups_cases a.nm with e | ⟨p, e, hp, _⟩
    · exact ⟨a, ha, .inl e⟩
    · obtain ⟨b, hb, hbp, _⟩ := hG.up a (h.sub a ha) p _ e
      rcases h.cov b hb with hr | hd
      · cases n with
        | zero => omega
        | succ n => exact h.some_rdy hG n b hr (by rw [hbp]; omega)
      · exact ⟨a, ha, .inr ⟨_, hd, by rw [par, e]; exact hbp⟩⟩
theorem nodup_one {R : List Ac} (hn : (R.map (·.nm)).Nodup) {i : Nat} (hi : i < R.length) : R[i] ∉ R.take i ++ R.drop (i + 1) := fun hin => by
  have e : R = R.take i ++ R[i] :: R.drop (i + 1) := by rw [← List.drop_eq_getElem_cons hi, List.take_append_drop]
  have hn2 : ((R.take i ++ R[i] :: R.drop (i + 1)).map (·.nm)).Nodup := by rw [← e]; exact hn
  rw [List.map_append, List.map_cons, List.nodup_append] at hn2
  obtain ⟨_, h2, h3⟩ := hn2
  rw [List.nodup_cons] at h2
  rcases List.mem_append.1 hin with h | h
  · exact h3 _ (List.mem_map.2 ⟨_, h, rfl⟩) _ (List.mem_cons_self ..) rfl
  · exact h2.1 (List.mem_map.2 ⟨_, h, rfl⟩)
theorem mem_less {R : List Ac} {i : Nat} (hi : i < R.length) {a : Ac} (ha : a ∈ R) : a = R[i] ∨ a ∈ R.take i ++ R.drop (i + 1) := by
  have e : R = R.take i ++ R[i] :: R.drop (i + 1) := by rw [← List.drop_eq_getElem_cons hi, List.take_append_drop]
  have h : a ∈ R.take i ++ R[i] :: R.drop (i + 1) := by rw [← e]; exact ha
  rcases List.mem_append.1 h with h | h
  · exact .inr (List.mem_append.2 (.inl h))
  · rcases List.mem_cons.1 h with h | h
    · exact .inl h
    · exact .inr (List.mem_append.2 (.inr h))
theorem less_mem {R : List Ac} {i : Nat} {a : Ac} (ha : a ∈ R.take i ++ R.drop (i + 1)) : a ∈ R := by
  rcases List.mem_append.1 ha with h | h
  · exact List.mem_of_mem_take h
  · exact List.mem_of_mem_drop h
theorem less_len {R : List Ac} {i : Nat} (hi : i < R.length) : (R.take i ++ R.drop (i + 1)).length + 1 = R.length := by
  rw [List.length_append, List.length_take, List.length_drop]
  omega
theorem less_nd {R : List Ac} (hn : (R.map (·.nm)).Nodup) {i : Nat} (hi : i < R.length) : ((R.take i ++ R.drop (i + 1)).map (·.nm)).Nodup := by
  have e : R = R.take i ++ R[i] :: R.drop (i + 1) := by rw [← List.drop_eq_getElem_cons hi, List.take_append_drop]
  have hn2 : ((R.take i ++ R[i] :: R.drop (i + 1)).map (·.nm)).Nodup := by rw [← e]; exact hn
  rw [List.map_append]
  rw [List.map_append, List.map_cons] at hn2
  exact hn2.sublist (List.Sublist.append (List.Sublist.refl _) (List.sublist_cons_self ..))
/-- it may be opened, and is then as it is in the list, but open -/
theorem Od.opens {L R D : List Ac} (hG : Good L) (h : Od L R D) {a : Ac} (ha : a ∈ R) (hr : rdy D a) {t : Int} (ht : t = if ups a.nm = [] then a.ty else 0) :
    openE D a.nm t a.dy = 0 ∧ openL D a.nm t a.dy = insA D (opn a) := by
  have haL := h.sub a ha
  have hnew : fnd D a.nm = none := by
    cases hf : fnd D a.nm with
    | none => rfl
    | some d =>
      obtain ⟨h1, h2⟩ := fnd_some hf
      obtain ⟨b, hb, rfl, hbr⟩ := h.dn d h1
      exact absurd (by rw [hG.one hb haL h2]; exact ha) hbr
  have hlen : ¬ 100 ≤ D.length := by
    have h1 := h.len
    have h2 := hG.len
    have h3 := List.length_pos_of_mem ha
    omega
  have hty := hG.typ a haL
  have hdy := hG.day a haL
  have hpar : ∀ p t, ups a.nm = p :: t → ∃ d, fnd D p = some d ∧ d.ty = a.ty ∧ d.dy ≤ a.dy ∧ d.cl = false := fun p t e => by
    rcases hr with e2 | ⟨d, hd, hdp⟩
    · rw [e] at e2; cases e2
    · have hdp2 : d.nm = p := by rw [hdp, par, e]; rfl
      obtain ⟨b, hb, rfl, _⟩ := h.dn d hd
      obtain ⟨c, hc, hcp, h1, h2, _⟩ := hG.up a haL p _ e
      have hbc : b = c := hG.one hb hc (hdp2.trans hcp.symm)
      subst hbc
      exact ⟨_, (fnd_iff h.good).2 ⟨hd, hdp2⟩, h1, h2, rfl⟩
  have hE : openE D a.nm t a.dy = 0 := by
    unfold openE
    rw [if_neg (by rw [hG.name a haL]; decide), if_neg (fun h0 => ?_), hnew, if_neg (by simp), if_neg hlen]
    · rcases ups_cases a.nm with e | ⟨p, e, _⟩
      · rw [if_pos e] at ht
        rw [e]
        exact if_neg (by omega)
      · rw [if_neg (by rw [e]; simp)] at ht
        obtain ⟨d, h1, h2, h3, h4⟩ := hpar p _ e
        rw [e]
        show (if t ≠ 0 then (64 : Int) else mayE D p a.dy) = 0
        rw [if_neg (by omega), mayE, h1]
        show (if d.cl = true then (63 : Int) else if a.dy < d.dy then 66 else 0) = 0
        rw [h4, if_neg (by decide), if_neg (by omega)]
    · rcases h0 with h0 | ⟨h0, h1⟩
      · exact h0 hdy
      · split at ht
        · rw [ht] at h1
          exact h1 hty
        · exact h0 ht
  refine ⟨hE, ?_⟩
  rw [openL, if_pos hE]
  congr 1
  unfold opA
  rcases ups_cases a.nm with e | ⟨p, e, _⟩
  · rw [if_pos e] at ht
    rw [e, ht]
    rfl
  · obtain ⟨d, h1, h2, h3, h4⟩ := hpar p _ e
    rw [e]
    show (⟨a.nm, (findA D p).ty, a.dy, false⟩ : Ac) = opn a
    rw [findA, h1]
    show (⟨a.nm, d.ty, a.dy, false⟩ : Ac) = opn a
    rw [h2]
    rfl
theorem Od.step {L R D : List Ac} (hG : Good L) (h : Od L R D) {i : Nat} (hi : i < R.length) (hr : rdy D R[i]) : Od L (R.take i ++ R.drop (i + 1)) (insA D (opn R[i])) := by
  have ha : R[i] ∈ R := List.getElem_mem hi
  obtain ⟨h1, h2⟩ := h.opens hG ha hr rfl
  have hf := open_fits h.good h1
  have hfe : opA D R[i].nm (if ups R[i].nm = [] then R[i].ty else 0) R[i].dy = opn R[i] := by
    have h3 := h2
    rw [openL, if_pos h1] at h3
    have h4 : opA D R[i].nm (if ups R[i].nm = [] then R[i].ty else 0) R[i].dy ∈ insA D (opn R[i]) := by
      rw [← h3, mem_insA hf.new]
      exact .inl rfl
    have hn4 : ¬ ∃ b ∈ D, b.nm = (opn R[i]).nm := by
      have := hf.new
      rwa [opA_nm] at this
    rcases (mem_insA hn4).1 h4 with e | e
    · exact e
    · exact absurd ⟨_, e, by rw [opA_nm]; rfl⟩ hn4
  rw [hfe] at hf
  refine ⟨h.good.ins hf, fun a h2 => h.sub a (less_mem h2), less_nd h.nd hi, ?_, fun a haL => ?_, fun d hd => ?_⟩
  · rw [ins_len h.good.rise hf.new]
    have := less_len hi
    have := h.len
    omega
  · rcases h.cov a haL with h3 | h3
    · rcases mem_less hi h3 with e | h4
      · right
        rw [e, mem_insA hf.new]
        exact .inl rfl
      · exact .inl h4
    · exact .inr ((mem_insA hf.new).2 (.inr h3))
  · rcases (mem_insA hf.new).1 hd with e | h3
    · exact ⟨R[i], h.sub _ ha, e, nodup_one h.nd hi⟩
    · obtain ⟨a, h4, h5, h6⟩ := h.dn d h3
      exact ⟨a, h4, h5, fun h7 => h6 (less_mem h7)⟩
/-- half way through the closing: the first m are open still -/
def half (L : List Ac) (m : Nat) : List Ac := (L.take m).map opn ++ L.drop m
theorem Od.done {L D : List Ac} (hG : Good L) (h : Od L [] D) : D = half L L.length := by
  rw [half, List.take_length, List.drop_length, List.append_nil]
  refine rise_ext h.good.rise ?_ (fun a => ?_)
  · rw [List.pairwise_map]
    exact hG.rise
  · rw [List.mem_map]
    constructor
    · intro ha
      obtain ⟨b, hb, e, _⟩ := h.dn a ha
      exact ⟨b, hb, e.symm⟩
    · rintro ⟨b, hb, rfl⟩
      rcases h.cov b hb with h1 | h1
      · cases h1
      · exact h1
theorem half_zero (L : List Ac) : half L 0 = L := by simp [half]
theorem lt_pre (u v : Nm) (c : UInt8) : u < u ++ c :: v := by
  induction u with
  | nil => exact List.Lex.nil
  | cons k u ih => exact List.Lex.cons ih
theorem up_lt {x p : Nm} {t : List Nm} (e : ups x = p :: t) : p < x := by
  have hc : x.contains 58 = true := by
    by_cases hc : x.contains 58 = true
    · exact hc
    · rw [ups_none _ (by simpa using hc)] at e; cases e
  obtain ⟨j, hj, _, hu, _⟩ := ups_some ⟨x.toArray⟩ (by simpa using hc)
  have e5 : (⟨x.toArray⟩ : ByteArray).data.toList = x := by simp
  rw [e5, e] at hu
  injection hu with hu _
  have hjl : j < x.length := by simpa [ByteArray.size] using hj
  have h1 : x = p ++ x.drop j := by rw [hu, List.take_append_drop]
  rw [List.drop_eq_getElem_cons hjl] at h1
  rw [h1]
  exact lt_pre _ _ _
theorem ups_lt : ∀ (n : Nat) (x : Nm), x.length ≤ n → ∀ y ∈ ups x, y < x
  | n, x, hn, y, hy => by
    rcases ups_cases x with e | ⟨p, e, hp, _⟩
    · rw [e] at hy
      cases hy
    · have hpx := up_lt e
      rw [e] at hy
      rcases List.mem_cons.1 hy with rfl | hy
      · exact hpx
      · cases n with
        | zero => omega
        | succ n => exact slt_trans (ups_lt n p (by omega) y hy) hpx
theorem half_succ {L : List Ac} {m : Nat} (hm : m < L.length) : half L (m + 1) = (L.take m).map opn ++ opn L[m] :: L.drop (m + 1) := by
  rw [half, ← List.take_append_getElem hm, List.map_append, List.append_assoc]
  rfl
theorem half_at {L : List Ac} {m : Nat} (hm : m < L.length) : half L m = (L.take m).map opn ++ L[m] :: L.drop (m + 1) := by
  rw [half, List.drop_eq_getElem_cons hm]
theorem half_open {L : List Ac} {m : Nat} (hm : m < L.length) (hc : L[m].cl = false) : half L (m + 1) = half L m := by
  rw [half_succ hm, half_at hm]
  congr 2
  rw [opn, ← hc]
theorem half_close {L : List Ac} (hG : Good L) {m : Nat} (hm : m < L.length) (hc : L[m].cl = true) (hH : Good (half L (m + 1))) : closeE (half L (m + 1)) L[m].nm = 0 ∧ clA (half L (m + 1)) L[m].nm = half L m := by
  have haL : L[m] ∈ L := List.getElem_mem hm
  have hin : opn L[m] ∈ half L (m + 1) := by rw [half_succ hm]; simp
  have hlow : ∀ b ∈ L.take m, b.nm < L[m].nm := fun b hb => by
    obtain ⟨j, hj, rfl⟩ := List.mem_iff_getElem.1 hb
    rw [List.length_take] at hj
    rw [List.getElem_take]
    exact rise_get hG (by omega) hm
  have hhigh : ∀ b ∈ L.drop (m + 1), L[m].nm < b.nm := fun b hb => by
    obtain ⟨j, hj, rfl⟩ := List.mem_iff_getElem.1 hb
    rw [List.length_drop] at hj
    rw [List.getElem_drop]
    exact rise_get hG (by omega) (by omega)
  have hf : fnd (half L (m + 1)) L[m].nm = some (opn L[m]) := (fnd_iff hH).2 ⟨hin, rfl⟩
  have hu : useB (half L (m + 1)) L[m].nm = false := by
    cases hu : useB (half L (m + 1)) L[m].nm with
    | false => rfl
    | true =>
      exfalso
      simp only [useB, List.any_eq_true, Bool.and_eq_true, decide_eq_true_eq, Bool.not_eq_true'] at hu
      obtain ⟨b, hb, h1, h2⟩ := hu
      have h3 : L[m].nm ∈ ups b.nm := by
        rw [anc, List.mem_append] at h1
        rcases h1 with h1 | h1
        · exact h1
        · exact absurd (by simpa using h1) (name_ne (hG.name _ haL))
      have h4 := ups_lt _ _ (Nat.le_refl _) _ h3
      rw [half_succ hm] at hb
      rcases List.mem_append.1 hb with hb | hb
      · obtain ⟨c, hc, rfl⟩ := List.mem_map.1 hb
        exact slt_irrefl _ (slt_trans (hlow c hc) h4)
      · rcases List.mem_cons.1 hb with rfl | hb
        · exact slt_irrefl _ h4
        · have hbL : b ∈ L := List.mem_of_mem_drop hb
          have h5 := (path_up hG _ b L[m] hbL haL (Nat.le_refl _) (by rw [path_is hG hbL]; exact List.mem_cons_of_mem _ h3)).2 hc
          rw [h2] at h5
          cases h5
  refine ⟨?_, ?_⟩
  · unfold closeE
    rw [hf]
    show (if (opn L[m]).cl = true then (63 : Int) else if useB (half L (m + 1)) L[m].nm = true then 65 else 0) = 0
    rw [hu, if_neg (by simp [opn]), if_neg (by decide)]
  · rw [half_succ hm, half_at hm, clA, List.map_append, List.map_cons]
    congr 1
    · rw [List.map_map]
      refine List.map_congr_left fun b hb => ?_
      show (if (opn b).nm = L[m].nm then _ else opn b) = opn b
      rw [if_neg (fun e => slt_irrefl _ (by have := hlow b hb; rw [show b.nm = L[m].nm from e] at this; exact this))]
    · congr 1
      · rw [if_pos (show (opn L[m]).nm = L[m].nm from rfl), opn, ← hc]
      · refine (List.map_congr_left fun b hb => ?_).trans (List.map_id _)
        rw [if_neg (fun e => slt_irrefl _ (by have := hhigh b hb; rw [e] at this; exact this))]
        rfl
end Go.Proofs.YtgimeecklmmbjaaDoor
