/- What the book is behind each call: the same files. -/
import Derived.Test.YtpeohbkigkfcgaaKpE
namespace Go.Proofs.Ytpeohbkigkfcgaa
open Go Go.Shelf Go.ChangeShapes Go.WideShapes Go.ChangeAt Go.RowKit Go.Maps Go.Sort
set_option linter.unusedVariables false
theorem perm_ins (x : List UInt8 × Fl) : ∀ A : Fs, (insF x A).Perm (x :: A)
  | [] => List.Perm.refl _
  | y :: r => by
    unfold insF
    split
    · exact List.Perm.refl _
    · exact ((perm_ins x r).cons y).trans (List.Perm.swap _ _ _)
theorem perm_put_new {k : List UInt8} {x : Fl} {A l : Fs} (hp : l.Perm A) (hg : getF k A = none) : (l ++ [(k, x)]).Perm (putF k x A) := by
  unfold putF
  rw [del_none hg]
  exact ((List.perm_append_comm (l₁ := l) (l₂ := [(k, x)])).trans (hp.cons _)).trans (perm_ins _ _).symm
theorem at_of_get {k : List UInt8} {x : Fl} {A : Fs} (hg : getF k A = some x) : ∃ i : Nat, A[i]? = some (k, x) := List.mem_iff_getElem?.1 (get_mem hg)
theorem perm_put_old {k : List UInt8} {x y : Fl} {A l : Fs} (hp : l.Perm A) (hO : OrdF A) (hg : getF k A = some x) {j : Nat} (hj : l[j]? = some (k, x)) : (l.set j (k, y)).Perm (putF k y A) := by
  obtain ⟨i, hi⟩ := at_of_get hg
  rw [put_set y hO hi]
  exact perm_set hp hj hi _
theorem perm_del {k : List UInt8} {A l : Fs} (hp : l.Perm A) : (delF k l).Perm (delF k A) := hp.filter _
theorem del_comm (k k' : List UInt8) (A : Fs) : delF k (delF k' A) = delF k' (delF k A) := by
  unfold delF
  rw [List.filter_filter, List.filter_filter]
  congr 1
  funext p
  exact Bool.and_comm _ _
theorem del_twice (k : List UInt8) (A : Fs) : delF k (delF k A) = delF k A := del_none (get_del_self k A)
theorem del_nodup {k : List UInt8} {l : Fs} (h : (l.map (·.1)).Nodup) : ((delF k l).map (·.1)).Nodup := h.sublist ((List.filter_sublist).map _)
/-- a file that is named anew -/
theorem perm_ren {a b : List UInt8} {x : Fl} {A l : Fs} (hp : l.Perm A) (hn : (l.map (·.1)).Nodup) {j : Nat} (hj : (delF b l)[j]? = some (a, x)) : ((delF b l).set j (b, x)).Perm (putF b x (delF a A)) := by
  obtain ⟨r, h1, h2⟩ := perm_pick (b, x) hj
  have hn1 : (((a, x) :: r).map (·.1)).Nodup := perm_nodup h1.symm (del_nodup hn)
  have hr : delF a r = r := del_none (get_none_iff.2 fun p hp e => by
    rw [List.map_cons, List.nodup_cons] at hn1
    exact hn1.1 (List.mem_map.2 ⟨p, hp, e⟩))
  have h3 : (delF a (delF b l)).Perm r := by
    have := perm_del (k := a) h1
    rw [show delF a ((a, x) :: r) = delF a r by simp [delF], hr] at this
    exact this
  have h4 : (delF a (delF b l)).Perm (delF b (delF a A)) := by
    rw [del_comm a b]
    exact perm_del (perm_del hp)
  exact (h2.trans ((h3.symm.trans h4).cons _)).trans (perm_ins _ _).symm
theorem put_same {k : List UInt8} {x : Fl} {A : Fs} (hO : OrdF A) (hg : getF k A = some x) : putF k x (delF k A) = A := by
  obtain ⟨i, hi⟩ := at_of_get hg
  have h1 : putF k x (delF k A) = putF k x A := by unfold putF; rw [del_twice]
  rw [h1, put_set x hO hi]
  refine List.ext_getElem? (fun j => ?_)
  rw [List.getElem?_set]
  by_cases e : i = j
  · subst e
    rw [if_pos rfl, hi]
    split
    · rfl
    · rename_i h
      exact absurd (List.getElem?_eq_some_iff.1 hi).1 h
  · rw [if_neg e]
theorem chg_zero {K : Dk} {er : Int} {A' : Fs} (h : (chgK K er A').2 = 0) : er = 0 ∧ (chgK K er A').1.A = A' := by
  unfold chgK at h ⊢
  split at h
  · simp at h
  · rename_i h1
    split at h
    · rename_i h2
      exact absurd h h2
    · rename_i h2
      split at h
      · simp at h
      · rename_i h3
        rw [if_neg h1, if_neg h2, if_neg h3]
        exact ⟨by simpa using h2, rfl⟩
theorem chg_ne {K : Dk} {er : Int} {A' : Fs} (h : (chgK K er A').2 ≠ 0) : (chgK K er A').1.A = K.A := by
  unfold chgK at h ⊢
  split at h
  · rename_i h1
    rw [if_pos h1]
  · rename_i h1
    rw [if_neg h1]
    split at h
    · rename_i h2
      rw [if_pos h2]
    · rename_i h2
      rw [if_neg h2]
      split at h
      · rename_i h3
        rw [if_pos h3]
      · simp at h
/-- a call that did not answer OK, and a fuse, leave the files -/
theorem act_same {o : OpV} {K : Dk} (ha : actB o.kind = true) (h : (actK o K).2 ≠ 0 ∨ o.kind = 12) (h14 : o.kind ≠ 14) : (actK o K).1.A = K.A := by
  rcases act_kinds ha with e | e | e | e | e | e | e
  · rcases h with h | h
    · have : actK o K = chgK K (whyK (prS o.nm) K) (newA (prS o.nm) K) := by unfold actK; rw [if_pos e]
      rw [this] at h ⊢
      exact chg_ne h
    · omega
  · rcases h with h | h
    · have : actK o K = chgK K (erA (prS o.nm) o.bs K) (appA (prS o.nm) o.bs K) := by unfold actK; rw [if_neg (by omega), if_pos e]
      rw [this] at h ⊢
      exact chg_ne h
    · omega
  · rcases h with h | h
    · have : actK o K = chgK K (erF (prS o.nm) K) (syncA (prS o.nm) K) := by unfold actK; rw [if_neg (by omega), if_neg (by omega), if_pos e]
      rw [this] at h ⊢
      exact chg_ne h
    · omega
  · rcases h with h | h
    · have : actK o K = chgK K (erR (prS o.nm) (prS o.to) K) (renA (prS o.nm) (prS o.to) K) := by unfold actK; rw [if_neg (by omega), if_neg (by omega), if_neg (by omega), if_pos e]
      rw [this] at h ⊢
      exact chg_ne h
    · omega
  · rcases h with h | h
    · have : actK o K = chgK K (erF (prS o.nm) K) (delF (prS o.nm).data.toList K.A) := by unfold actK; rw [if_neg (by omega), if_neg (by omega), if_neg (by omega), if_neg (by omega), if_pos e]
      rw [this] at h ⊢
      exact chg_ne h
    · omega
  · have : actK o K = fuseK K o.n := by unfold actK; rw [if_neg (by omega), if_neg (by omega), if_neg (by omega), if_neg (by omega), if_neg (by omega), if_pos e]
    rw [this]
    unfold fuseK
    split
    · rfl
    · split <;> rfl
  · exact absurd e h14
/-- what is found of the name behind a call that answered OK -/
theorem act_find {o : OpV} {K : Dk} {l : Fs} (hp : l.Perm K.A) (hO : OrdF K.A) (h3 : 3 ≤ o.kind) (h7 : o.kind ≤ 7) (h0 : (actK o K).2 = 0) : (o.kind = 3 → idxF (prS o.nm).data.toList l 0 = -1 ∧ getF (prS o.nm).data.toList K.A = none) ∧ (o.kind ≠ 3 → ∃ (j : Nat) (x : Fl), idxF (prS o.nm).data.toList l 0 = (j : Int) ∧ l[j]? = some ((prS o.nm).data.toList, x) ∧ getF (prS o.nm).data.toList K.A = some x) := by
  have hnd : (l.map (·.1)).Nodup := perm_nodup hp (ord_nodup hO)
  have hsome : ∀ x, getF (prS o.nm).data.toList K.A = some x → ∃ (j : Nat) (x : Fl), idxF (prS o.nm).data.toList l 0 = (j : Int) ∧ l[j]? = some ((prS o.nm).data.toList, x) ∧ getF (prS o.nm).data.toList K.A = some x := fun x hx => by
    obtain ⟨j, h1, h2⟩ := idx_of (l := l) (x := x) 0 ((hp.mem_iff).2 (get_mem hx)) hnd
    rw [Nat.zero_add] at h2
    exact ⟨j, x, h2, h1, hx⟩
  have hkind : o.kind = 3 ∨ o.kind = 4 ∨ o.kind = 5 ∨ o.kind = 6 ∨ o.kind = 7 := by omega
  refine ⟨fun e => ?_, fun e => ?_⟩
  · have h1 : actK o K = chgK K (whyK (prS o.nm) K) (newA (prS o.nm) K) := by unfold actK; rw [if_pos e]
    rw [h1] at h0
    have h2 := (chg_zero h0).1
    have hg : getF (prS o.nm).data.toList K.A = none := by
      unfold whyK at h2
      split at h2
      · omega
      · split at h2
        · omega
        · rename_i h3
          cases hh : getF (prS o.nm).data.toList K.A with
          | none => rfl
          | some x => rw [hh] at h3; simp at h3
    exact ⟨idx_none 0 (fun p hp' => get_none_iff.1 hg p ((hp.mem_iff).1 hp')), hg⟩
  · have her : erF (prS o.nm) K = 0 := by
      rcases hkind with h | h | h | h | h
      · omega
      · have h1 : actK o K = chgK K (erA (prS o.nm) o.bs K) (appA (prS o.nm) o.bs K) := by unfold actK; rw [if_neg (by omega), if_pos h]
        rw [h1] at h0
        have h2 := (chg_zero h0).1
        unfold erA at h2
        split at h2
        · omega
        · exact h2
      · have h1 : actK o K = chgK K (erF (prS o.nm) K) (syncA (prS o.nm) K) := by unfold actK; rw [if_neg (by omega), if_neg (by omega), if_pos h]
        rw [h1] at h0
        exact (chg_zero h0).1
      · have h1 : actK o K = chgK K (erR (prS o.nm) (prS o.to) K) (renA (prS o.nm) (prS o.to) K) := by unfold actK; rw [if_neg (by omega), if_neg (by omega), if_neg (by omega), if_pos h]
        rw [h1] at h0
        have h2 := (chg_zero h0).1
        unfold erR at h2
        split at h2
        · omega
        · exact h2
      · have h1 : actK o K = chgK K (erF (prS o.nm) K) (delF (prS o.nm).data.toList K.A) := by unfold actK; rw [if_neg (by omega), if_neg (by omega), if_neg (by omega), if_neg (by omega), if_pos h]
        rw [h1] at h0
        exact (chg_zero h0).1
    obtain ⟨_, x, hx⟩ := erF_zero her
    exact hsome x hx
theorem del_get {b : List UInt8} {l : Fs} {p : List UInt8 × Fl} (h : p ∈ l) (hne : p.1 ≠ b) : p ∈ delF b l := mem_delF.2 ⟨h, hne⟩
/-- noted, at every kind -/
theorem noted_any {w : World} {U : Nat → Prop} {v : Value} {l : Fs} (h : BookAt w U v l) {K : Dk} (hI : Inv K) (hp : l.Perm K.A) (o : OpV) (dk at0 : Int) (pb : Option Addr) (cb : Nat) (pk : Option Addr) (ck : Nat) (c1 f1 : Int) (pf : Option Addr) (lf cf : Nat) (b1 : Bool) (ho : OpAt w o pb cb pk ck) (h3 : 3 ≤ o.kind) (h7 : o.kind ≤ 7) (h0 : (actK o K).2 = 0) :
    Calls Try.prog 19 #[v, opV o dk at0 pb cb pk ck c1 pf lf cf f1 b1] w fun e w' => ∃ v', e = .returned v' ∧ ∃ U' l', BookAt w' U' v' l' ∧ l'.Perm (actK o K).1.A ∧ Sep w w' U U' := by
  have hl : l.length < 100 := by
    have h1 := hp.length_eq
    have h2 := hI.many
    omega
  have hnd : (l.map (·.1)).Nodup := perm_nodup hp (ord_nodup hI.ord)
  obtain ⟨hf3, hfo⟩ := act_find hp hI.ord h3 h7 h0
  have hkind : o.kind = 3 ∨ o.kind = 4 ∨ o.kind = 5 ∨ o.kind = 6 ∨ o.kind = 7 := by omega
  rcases hkind with hk | hk | hk | hk | hk
  · have h1 : actK o K = chgK K (whyK (prS o.nm) K) (newA (prS o.nm) K) := by unfold actK; rw [if_pos hk]
    rw [h1] at h0 ⊢
    rw [(chg_zero h0).2]
    refine (noted3 h hl o dk at0 pb cb pk ck c1 f1 pf lf cf b1 hk ho.nm ho.to _ _ rfl rfl).mono ?_
    rintro e w' ⟨v', he, U', hb, hs⟩
    exact ⟨v', he, U', _, hb, perm_put_new hp (hf3 hk).2, hs⟩
  · have h1 : actK o K = chgK K (erA (prS o.nm) o.bs K) (appA (prS o.nm) o.bs K) := by unfold actK; rw [if_neg (by omega), if_pos hk]
    rw [h1] at h0 ⊢
    rw [(chg_zero h0).2]
    obtain ⟨j, x, hi, hj, hx⟩ := hfo (by omega)
    have her := (chg_zero h0).1
    have hlen : x.bs.length + o.bs.length ≤ 1048576 := by
      have h4 := get_le_tot hx
      have h5 := hI.tot
      have h6 := hI.cap1
      unfold erA at her
      split at her
      · omega
      · rename_i h8
        have h9 : ¬ (K.cap - (totF K.A : Int) < (o.bs.length : Int)) := fun h' => h8 ⟨her, h'⟩
        omega
    refine (noted4 h hl o dk at0 pb cb pk ck c1 f1 pf lf cf b1 hk ho.nm ho.to _ _ rfl rfl hj hi hlen ho.by').mono ?_
    rintro e w' ⟨v', he, U', hb, hs⟩
    refine ⟨v', he, U', _, hb, ?_, hs⟩
    unfold appA
    rw [hx]
    exact perm_put_old hp hI.ord hx hj
  · have h1 : actK o K = chgK K (erF (prS o.nm) K) (syncA (prS o.nm) K) := by unfold actK; rw [if_neg (by omega), if_neg (by omega), if_pos hk]
    rw [h1] at h0 ⊢
    rw [(chg_zero h0).2]
    obtain ⟨j, x, hi, hj, hx⟩ := hfo (by omega)
    have hlen : x.bs.length ≤ 1048576 := by
      have h4 := get_le_tot hx
      have h5 := hI.tot
      have h6 := hI.cap1
      omega
    refine (noted5 h hl o dk at0 pb cb pk ck c1 f1 pf lf cf b1 hk ho.nm ho.to _ _ rfl rfl hj hi hlen).mono ?_
    rintro e w' ⟨v', he, U', hb, hs⟩
    refine ⟨v', he, U', _, hb, ?_, hs⟩
    unfold syncA
    rw [hx]
    exact perm_put_old hp hI.ord hx hj
  · have h1 : actK o K = chgK K (erR (prS o.nm) (prS o.to) K) (renA (prS o.nm) (prS o.to) K) := by unfold actK; rw [if_neg (by omega), if_neg (by omega), if_neg (by omega), if_pos hk]
    rw [h1] at h0 ⊢
    rw [(chg_zero h0).2]
    obtain ⟨j, x, hi, hj, hx⟩ := hfo (by omega)
    have hren : renA (prS o.nm) (prS o.to) K = putF (prS o.to).data.toList x (delF (prS o.nm).data.toList K.A) := by
      unfold renA
      rw [hx]
    rw [hren]
    by_cases he : prS o.nm = prS o.to
    · refine (noted6eq h hl o dk at0 pb cb pk ck c1 f1 pf lf cf b1 hk ho.nm ho.to _ _ rfl rfl he).mono ?_
      rintro e w' ⟨v', he', U', hb, hs⟩
      refine ⟨v', he', U', _, hb, ?_, hs⟩
      rw [← he, put_same hI.ord hx]
      exact hp
    · have hne : (prS o.nm).data.toList ≠ (prS o.to).data.toList := fun e => he (bytes_inj e)
      have hmem : ((prS o.nm).data.toList, x) ∈ delF (prS o.to).data.toList l := del_get (List.mem_of_getElem? hj) hne
      obtain ⟨j', hj', hi'⟩ := idx_of (l := delF (prS o.to).data.toList l) (x := x) 0 hmem (del_nodup hnd)
      rw [Nat.zero_add] at hi'
      have hbe : ((prS o.nm).toList == (prS o.to).toList) = false := by
        rw [ByteArray.toList_eq, ByteArray.toList_eq]
        simpa using hne
      refine (noted6ne h hl o dk at0 pb cb pk ck c1 f1 pf lf cf b1 hk ho.nm ho.to _ _ rfl rfl hbe hj' hi').mono ?_
      rintro e w' ⟨v', he', U', hb, hs⟩
      exact ⟨v', he', U', _, hb, perm_ren hp hnd hj', hs⟩
  · have h1 : actK o K = chgK K (erF (prS o.nm) K) (delF (prS o.nm).data.toList K.A) := by unfold actK; rw [if_neg (by omega), if_neg (by omega), if_neg (by omega), if_neg (by omega), if_pos hk]
    rw [h1] at h0 ⊢
    rw [(chg_zero h0).2]
    refine (noted7 h hl o dk at0 pb cb pk ck c1 f1 pf lf cf b1 hk ho.nm ho.to _ _ rfl rfl).mono ?_
    rintro e w' ⟨v', he, U', hb, hs⟩
    exact ⟨v', he, U', _, hb, perm_del hp, hs⟩
end Go.Proofs.Ytpeohbkigkfcgaa
