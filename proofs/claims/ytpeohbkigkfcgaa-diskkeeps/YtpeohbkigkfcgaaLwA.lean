/- What a call of acts may come to. -/
import Derived.Test.YtpeohbkigkfcgaaGoA
import Derived.Test.YtpeohbkigkfcgaaOpA
namespace Go.Proofs.Ytpeohbkigkfcgaa
open Go Go.Shelf Go.ChangeShapes Go.WideShapes Go.ChangeAt Go.RowKit Go.Maps Go.Sort
set_option linter.unusedVariables false
/-- how a changing call ends -/
inductive Chg (K : Dk) : Dk × Int → Prop
  | down (h : K.down = true) : Chg K (K, 34)
  | no (h : K.down = false) (e : Int) (he : e ≠ 0) (he' : e ≠ 34) : Chg K (K, e)
  | cut (h : K.down = false) (hf : K.fuse = 0) : Chg K ({ K with fuse := -1, down := true }, 34)
  | ok (h : K.down = false) (hf : K.fuse ≠ 0) (K' : Dk) (h1 : 0 < K.fuse → K'.fuse = K.fuse - 1) (h2 : K.fuse < 0 → K'.fuse = K.fuse) : Chg K (K', 0)
theorem chg_ends (K : Dk) (er : Int) (A' : Fs) (h : er ≠ 34) : Chg K (chgK K er A') := by
  unfold chgK
  by_cases hd : K.down = true
  · rw [if_pos hd]
    exact .down hd
  · have hd' : K.down = false := by simpa using hd
    rw [if_neg hd]
    by_cases he : er = 0
    · rw [if_neg (by simpa using he)]
      by_cases hf : K.fuse = 0
      · rw [if_pos hf]
        exact .cut hd' hf
      · rw [if_neg hf]
        exact .ok hd' hf _ (fun h => by simp [h]) (fun h => by simp only; rw [if_neg (by omega)])
    · rw [if_pos he]
      exact .no hd' er he h
theorem erF_34 (s : ByteArray) (K : Dk) : erF s K ≠ 34 := by
  unfold erF
  split
  · omega
  · split <;> omega
theorem whyK_34 (s : ByteArray) (K : Dk) : whyK s K ≠ 34 := by
  unfold whyK
  split
  · omega
  · split
    · omega
    · split <;> omega
theorem erA_34 (s : ByteArray) (b : List UInt8) (K : Dk) : erA s b K ≠ 34 := by
  unfold erA
  split
  · omega
  · exact erF_34 s K
theorem erR_34 (s t : ByteArray) (K : Dk) : erR s t K ≠ 34 := by
  unfold erR
  split
  · omega
  · exact erF_34 s K
/-- how an act ends -/
inductive ActE (o : OpV) (K : Dk) : Prop
  | chg (h3 : 3 ≤ o.kind) (h7 : o.kind ≤ 7) (h : Chg K (actK o K))
  | fuse (h : o.kind = 12) (hR : (actK o K = (K, 1)) ∨ (K.down = true ∧ actK o K = (K, 34)) ∨ (K.down = false ∧ actK o K = ({ K with fuse := o.n }, 0)))
  | crash (h : o.kind = 14) (hR : actK o K = (crashK o.ks K, 0))
theorem act_ends (o : OpV) (K : Dk) (ha : actB o.kind = true) : ActE o K := by
  rcases act_kinds ha with h | h | h | h | h | h | h
  · refine .chg (by omega) (by omega) ?_
    have : actK o K = chgK K (whyK (prS o.nm) K) (newA (prS o.nm) K) := by unfold actK; rw [if_pos h]
    rw [this]
    exact chg_ends K _ _ (whyK_34 _ _)
  · refine .chg (by omega) (by omega) ?_
    have : actK o K = chgK K (erA (prS o.nm) o.bs K) (appA (prS o.nm) o.bs K) := by unfold actK; rw [if_neg (by omega), if_pos h]
    rw [this]
    exact chg_ends K _ _ (erA_34 _ _ _)
  · refine .chg (by omega) (by omega) ?_
    have : actK o K = chgK K (erF (prS o.nm) K) (syncA (prS o.nm) K) := by unfold actK; rw [if_neg (by omega), if_neg (by omega), if_pos h]
    rw [this]
    exact chg_ends K _ _ (erF_34 _ _)
  · refine .chg (by omega) (by omega) ?_
    have : actK o K = chgK K (erR (prS o.nm) (prS o.to) K) (renA (prS o.nm) (prS o.to) K) := by unfold actK; rw [if_neg (by omega), if_neg (by omega), if_neg (by omega), if_pos h]
    rw [this]
    exact chg_ends K _ _ (erR_34 _ _ _)
  · refine .chg (by omega) (by omega) ?_
    have : actK o K = chgK K (erF (prS o.nm) K) (delF (prS o.nm).data.toList K.A) := by unfold actK; rw [if_neg (by omega), if_neg (by omega), if_neg (by omega), if_neg (by omega), if_pos h]
    rw [this]
    exact chg_ends K _ _ (erF_34 _ _)
  · refine .fuse h ?_
    have : actK o K = fuseK K o.n := by unfold actK; rw [if_neg (by omega), if_neg (by omega), if_neg (by omega), if_neg (by omega), if_neg (by omega), if_pos h]
    rw [this]
    unfold fuseK
    by_cases hc : canBe (-1) o.n = false
    · rw [if_pos hc]
      exact .inl rfl
    · rw [if_neg hc]
      by_cases hd : K.down = true
      · rw [if_pos hd]
        exact .inr (.inl ⟨hd, rfl⟩)
      · rw [if_neg hd]
        exact .inr (.inr ⟨by simpa using hd, rfl⟩)
  · refine .crash h ?_
    unfold actK
    rw [if_neg (by omega), if_neg (by omega), if_neg (by omega), if_neg (by omega), if_neg (by omega), if_neg (by omega), if_pos h]
/-- what the law's round goes by -/
inductive Rnd (o : OpV) (K K' : Dk) (e : Int) : Prop
  | a1 (he : e = 34) (hK : K' = K) (hd : K.down = true) (hk : o.kind ≠ 14)
  | a2 (he : e ≠ 0) (he' : e ≠ 34) (hK : K' = K) (hd : K.down = true) (hk : o.kind = 12)
  | b (he : e ≠ 0) (he' : e ≠ 34) (hK : K' = K) (hd : K.down = false)
  | c (he : e = 34) (hK : K' = { K with fuse := -1, down := true }) (hd : K.down = false) (hf : K.fuse = 0)
  | d (he : e = 0) (hk : o.kind = 14)
  | e (he : e = 0) (hd : K.down = false) (hk : o.kind = 12)
  | f (he : e = 0) (hd : K.down = false) (h3 : 3 ≤ o.kind) (h7 : o.kind ≤ 7) (hf : 0 < K.fuse) (hf' : K'.fuse = K.fuse - 1)
  | g (he : e = 0) (hd : K.down = false) (h3 : 3 ≤ o.kind) (h7 : o.kind ≤ 7) (hf : K.fuse = -1) (hf' : K'.fuse = -1)
theorem act_rnd (o : OpV) (K : Dk) (ha : actB o.kind = true) (hI : Inv K) : Rnd o K (actK o K).1 (actK o K).2 := by
  rcases act_ends o K ha with ⟨h3, h7, h⟩ | ⟨h, hR⟩ | ⟨h, hR⟩
  · generalize actK o K = R at h
    cases h with
    | down h => exact .a1 rfl rfl h (by omega)
    | no h e he he' => exact .b he he' rfl h
    | cut h hf => exact .c rfl rfl h hf
    | ok h hf K' h1 h2 =>
      by_cases hp : 0 < K.fuse
      · exact .f rfl h h3 h7 hp (h1 hp)
      · have h0 := hI.fu0
        exact .g rfl h h3 h7 (by omega) (by rw [h2 (by omega)]; omega)
  · rcases hR with hR | ⟨hd, hR⟩ | ⟨hd, hR⟩
    · rw [hR]
      cases hd : K.down with
      | true => exact .a2 (by show (1 : Int) ≠ 0; decide) (by show (1 : Int) ≠ 34; decide) rfl hd h
      | false => exact .b (by show (1 : Int) ≠ 0; decide) (by show (1 : Int) ≠ 34; decide) rfl hd
    · rw [hR]
      exact .a1 rfl rfl hd (by omega)
    · rw [hR]
      exact .e rfl hd h
  · rw [hR]
    exact .d rfl h
end Go.Proofs.Ytpeohbkigkfcgaa
