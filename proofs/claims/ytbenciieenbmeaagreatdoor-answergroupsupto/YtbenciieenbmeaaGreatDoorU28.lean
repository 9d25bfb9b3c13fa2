import Derived.Test.YtbenciieenbmeaaGreatDoorW26
import Derived.Test.YtbenciieenbmeaaGreatDoorW27
import Derived.Shelf.SlSortCmp.NoneTotal
import Derived.Shelf.SlLaysF0
import Derived.Ground.SlsfProg
import Derived.Test.YtbenciieenbmeaaGreatDoorProg
import Derived.Test.YtbenciieenbmeaaGreatDoorW25
/- answer: what holds of a query that means something (no program in it). -/
namespace Go.Proofs.YtbenciieenbmeaaGreatDoor
open Go Go.Shelf Go.ChangeShapes Go.WideShapes Go.ChangeAt Go.RowKit Go.Maps
set_option linter.unusedVariables false
set_option maxRecDepth 100000
set_option maxHeartbeats 4000000
theorem tyL_pre (A B : List Nd) : ∃ R, tyL (A ++ B) = tyL A ++ R := by
  refine onD_ind (p := fun B => ∃ R, tyL (A ++ B) = tyL A ++ R) ⟨[], by simp⟩ (fun L x ih => ?_) B
  obtain ⟨R, hR⟩ := ih
  exact ⟨R ++ [ntS x (tyL (A ++ L))], by rw [← List.append_assoc, tyL_snoc, hR, List.append_assoc]⟩
theorem tyL_mem (L : List Nd) (k : Nat) (hk : k < L.length) : ntS L[k] (tyL (L.take k)) ∈ tyL L := by
  obtain ⟨R, hR⟩ := tyL_pre (L.take (k + 1)) (L.drop (k + 1))
  rw [List.take_append_drop] at hR
  rw [hR, tyL_take L k hk]
  simp
theorem sgl_nz {op t : Int} (h : sgl op t ≠ 0) : t ≠ 0 := by
  intro e
  subst e
  unfold sgl at h
  split at h <;> exact absurd rfl h
theorem nin_of {x : Nd} {T : List Int} (h : ntS x T ≠ 0) : Nin x T.length := by
  unfold ntS at h
  unfold narS at h
  unfold Nin
  by_cases c : 16 ≤ x.op ∧ x.op ≤ 20
  · exact ⟨fun h1 => absurd c h1, fun h1 => absurd c h1⟩
  · rw [if_neg (by omega), if_neg (by omega), if_neg (by omega), if_neg (by omega), if_neg (by omega)] at h
    by_cases c2 : x.op = 3 ∨ x.op = 15
    · rw [if_pos c2] at h
      have := tat_nz (sgl_nz (show sgl x.op (tat T x.left) ≠ 0 from h))
      exact ⟨fun _ => this, fun _ h3 h15 => absurd c2 (by omega)⟩
    · rw [if_neg c2] at h
      by_cases c3 : 1 ≤ x.op ∧ x.op ≤ 14
      · rw [if_pos c3] at h
        have := pr_nz (show prS x.op (tat T x.left) (tat T x.right) ≠ 0 from h)
        exact ⟨fun _ => tat_nz this.1, fun _ _ _ => tat_nz this.2⟩
      · rw [if_neg c3] at h
        exact absurd rfl h
theorem ok_ahd {q : Qy} (h : okQ q = true) : Ahd q.nodes := fun k hk => by
  have := nin_of (((ok_iff q).1 h).p1 _ (tyL_mem q.nodes k hk))
  rwa [tyL_len, List.length_take, Nat.min_eq_left (by omega)] at this
theorem ok_wh {q : Qy} (h : okQ q = true) : q.wh < 0 ∨ q.wh < q.nodes.length := by
  rcases ((ok_iff q).1 h).p2 with e | e
  · left; omega
  · right
    have := (tat_nz (T := tyL q.nodes) (i := q.wh) (by rw [e]; decide)).2
    rwa [tyL_len] at this
theorem nodup_upto (n : Nat) : ∀ (L : List Int), L.Nodup → (∀ x ∈ L, 1 ≤ x ∧ x ≤ n) → L.length ≤ n := by
  induction n with
  | zero =>
    intro L _ h
    cases L with
    | nil => exact Nat.le_refl _
    | cons x L => have := h x (List.mem_cons_self ..); omega
  | succ n ih =>
    intro L hd h
    have h1 := ih (L.erase ((n : Int) + 1)) (hd.erase _) (fun x hx => by
      have h2 := (List.Nodup.mem_erase_iff hd).1 hx
      have h3 := h x h2.2
      have := h2.1
      omega)
    have h2 : L.length ≤ (L.erase ((n : Int) + 1)).length + 1 := by
      rw [List.length_erase]; split <;> omega
    omega
theorem isF_in {f : Int} (h : isF f = true) : 1 ≤ f ∧ f ≤ 14 := by
  unfold isF at h
  simpa using h
theorem ok_by {q : Qy} (h : okQ q = true) : (onD q.by').length ≤ 14 :=
  nodup_upto 14 _ (nodup_onD _) (fun x hx => isF_in (((ok_iff q).1 h).p3 x ((mem_onD _ _).1 hx)))
theorem ok_byI {q : Qy} (h : okQ q = true) : ∀ x ∈ q.by', inI x := fun x hx => by
  have := isF_in (((ok_iff q).1 h).p3 x hx)
  unfold inI
  omega
theorem shw_kd {x : Int × Int} {T : List Int} (h : shwS x T = true) : x.1 = 1 ∨ x.1 = 2 ∨ x.1 = 3 ∨ x.1 = 4 := by
  unfold shwS at h
  by_cases c1 : x.1 = 1
  · exact .inl c1
  · by_cases c2 : x.1 = 2
    · exact .inr (.inl c2)
    · by_cases c3 : x.1 = 3 ∨ x.1 = 4
      · rcases c3 with e | e
        · exact .inr (.inr (.inl e))
        · exact .inr (.inr (.inr e))
      · rw [if_neg c1, if_neg c2, if_neg c3] at h
        cases h
theorem ok_ag {q : Qy} (h : okQ q = true) (T : List Int) (nB : Nat) : ∀ x ∈ onD (shL T nB q.sh), AgIn q.nodes.length x := fun x hx => by
  rw [mem_onD] at hx
  unfold shL at hx
  obtain ⟨i, hi, rfl⟩ := List.mem_mapIdx.1 hx
  have h5 := ((ok_iff q).1 h).p5 q.sh[i] (List.getElem_mem hi)
  refine ⟨shw_kd h5, fun h1 => ?_⟩
  have := shw_in h5 h1
  rw [tyL_len] at this
  show 0 ≤ (if q.sh[i].1 = 1 then 0 else q.sh[i].2) ∧ (if q.sh[i].1 = 1 then 0 else q.sh[i].2) < _
  rw [if_neg (show ¬ q.sh[i].1 = 1 from h1)]
  exact this
theorem ok_s0 {q : Qy} (h : okQ q = true) (T : List Int) (nB : Nat) : onD (shL T nB q.sh) ≠ [] := fun e => by
  have h4 := ((ok_iff q).1 h).p4
  have hl := shL_len T nB q.sh
  have : shL T nB q.sh = [] := by
    cases hs : shL T nB q.sh with
    | nil => rfl
    | cons x L => have := (mem_onD (shL T nB q.sh) x).2 (by rw [hs]; exact List.mem_cons_self ..); rw [e] at this; cases this
  rw [this] at hl
  simp at hl
  omega
theorem onP_in {κ : Type} [DecidableEq κ] (L : List κ) : ∀ z ∈ onP L, 0 ≤ z ∧ z < ((onD L).length : Int) := fun z hz => by
  unfold onP at hz
  obtain ⟨x, hx, rfl⟩ := List.mem_map.1 hz
  have := List.idxOf_lt_length_iff.2 ((mem_onD L x).2 hx)
  omega
theorem plL_len (q : Qy) (T : List Int) : (plL q T).length = q.by'.length + q.sh.length := by
  unfold plL
  rw [List.length_append, List.length_map, onP_len, onP_len, shL_len]
theorem plL_in (q : Qy) (T : List Int) : ∀ z ∈ plL q T, 0 ≤ z ∧ z < (((onD q.by').length + (onD (shL T q.by'.length q.sh)).length : Nat) : Int) := fun z hz => by
  unfold plL at hz
  rcases List.mem_append.1 hz with h | h
  · have := onP_in _ z h
    omega
  · obtain ⟨y, hy, rfl⟩ := List.mem_map.1 h
    have := onP_in _ y hy
    omega
theorem ok_ord {q : Qy} (h : okQ q = true) : ∀ x ∈ q.ords, 0 ≤ x.1 ∧ x.1 < ((q.by'.length + q.sh.length : Nat) : Int) := fun x hx => by
  have := ((ok_iff q).1 h).p6 x hx
  unfold ordS at this
  simp at this
  omega
theorem mem_addL (L : List (Int × Bool)) : ∀ k ∈ addL L, k ∈ L := by
  refine onD_ind (p := fun L => ∀ k ∈ addL L, k ∈ L) (fun k h => h) (fun L y ih => ?_) L
  intro k hk
  rw [addL_snoc] at hk
  unfold addK at hk
  split at hk
  · exact List.mem_append_left _ (ih k hk)
  · rcases List.mem_append.1 hk with h | h
    · exact List.mem_append_left _ (ih k h)
    · exact List.mem_append_right _ h
theorem keys_in {P : List Int} {O : List (Int × Bool)} {nF m : Nat} (hP : ∀ z ∈ P, 0 ≤ z ∧ z < (m : Int)) (hO : ∀ x ∈ O, 0 ≤ x.1 ∧ x.1 < (P.length : Int)) (hF : nF ≤ m) : ∀ k ∈ keysL P O nF, 0 ≤ k.1 ∧ k.1 < (m : Int) := fun k hk => by
  unfold keysL at hk
  rcases List.mem_append.1 (mem_addL _ k hk) with h | h
  · unfold keyO at h
    obtain ⟨x, hx, rfl⟩ := List.mem_map.1 h
    have := hO x hx
    have h2 : x.1.toNat < P.length := by omega
    simp only [List.getD_eq_getElem?_getD, List.getElem?_eq_getElem h2, Option.getD_some]
    exact hP _ (List.getElem_mem h2)
  · unfold keyF at h
    obtain ⟨i, hi, rfl⟩ := List.mem_map.1 h
    have := List.mem_range.1 hi
    simp only
    omega
theorem keys_len (P : List Int) (O : List (Int × Bool)) (nF : Nat) : (keysL P O nF).length ≤ O.length + nF := by
  unfold keysL
  refine Nat.le_trans (addL_len _) ?_
  rw [List.length_append]
  unfold keyO keyF
  simp
theorem ksF_14 {q : Qy} {F : List Int} {S : List Ag} {R : List Ro} (hF : F.length ≤ 14) : ∀ k ∈ ksF q F S R, k.length = 14 := fun k hk => by
  have hR : ∀ k ∈ ksR q F R, k.length = 14 := fun k hk => by
    unfold ksR at hk
    rw [mem_onD] at hk
    obtain ⟨r, _, rfl⟩ := List.mem_map.1 hk
    unfold keyK
    rw [List.length_append, List.length_map, List.length_replicate]
    omega
  unfold ksF at hk
  split at hk
  · split at hk
    · exact hR k hk
    · rcases List.mem_append.1 hk with h | h
      · exact hR k h
      · rw [List.mem_singleton.1 h]; rfl
  · exact hR k hk
theorem lines_len {q : Qy} {F : List Int} {S : List Ag} {R : List Ro} (hF : F.length ≤ 14) : ∀ L ∈ linesL q F S R, L.length = F.length + S.length := fun L hL => by
  unfold linesL at hL
  obtain ⟨k, hk, rfl⟩ := List.mem_map.1 hL
  unfold lnC
  rw [List.length_append, List.length_take, List.length_map, ksF_14 hF k hk]
  omega
theorem lines_count (q : Qy) (F : List Int) (S : List Ag) (R : List Ro) : (linesL q F S R).length ≤ R.length + 1 := by
  unfold linesL
  rw [List.length_map]
  have := ksR_len q F R
  unfold ksF
  split
  · split
    · omega
    · rw [List.length_append]; simpa using this
  · omega
/-- a type is one of six numbers -/
def ty5 (t : Int) : Prop := 0 ≤ t ∧ t ≤ 5
theorem tif_5 {b : Bool} {t : Int} (h : ty5 t) : ty5 (tif b t) := by
  unfold tif
  split
  · exact h
  · exact ⟨by decide, by decide⟩
theorem rec_5 (op a b : Int) : ty5 (recS op a b) := by
  by_cases hh : recS op a b = 0
  · rw [hh]; exact ⟨by decide, by decide⟩
  · unfold recS
    cases hf : (List.range 11).find? (fun k => rB k op a b) with
    | none => exact ⟨by decide, by decide⟩
    | some k =>
      have hk : k < 11 := by
        have := List.mem_of_find?_eq_some hf
        simpa using this
      show ty5 (rc k).2.2.2
      match k, hk with
      | 0, _ => exact ⟨by decide, by decide⟩
      | 1, _ => exact ⟨by decide, by decide⟩
      | 2, _ => exact ⟨by decide, by decide⟩
      | 3, _ => exact ⟨by decide, by decide⟩
      | 4, _ => exact ⟨by decide, by decide⟩
      | 5, _ => exact ⟨by decide, by decide⟩
      | 6, _ => exact ⟨by decide, by decide⟩
      | 7, _ => exact ⟨by decide, by decide⟩
      | 8, _ => exact ⟨by decide, by decide⟩
      | 9, _ => exact ⟨by decide, by decide⟩
      | 10, _ => exact ⟨by decide, by decide⟩
theorem pr_5 (op a b : Int) : ty5 (prS op a b) := by
  have h4 : ty5 4 := ⟨by decide, by decide⟩
  unfold prS
  repeat' split
  all_goals first | exact tif_5 h4 | exact rec_5 _ _ _ | exact ⟨by decide, by decide⟩
theorem sgl_5 (op t : Int) : ty5 (sgl op t) := by
  unfold sgl
  split
  · exact tif_5 ⟨by decide, by decide⟩
  · unfold tif
    split
    · rename_i h
      simp only [Bool.or_eq_true, beq_iff_eq] at h
      unfold ty5
      omega
    · exact ⟨by decide, by decide⟩
theorem fld_5 (f : Int) : ty5 (fldS f).2 := by
  unfold fldS
  split
  · rename_i h
    have := isF_in h
    obtain ⟨n, hn⟩ : ∃ n : Nat, f = n := ⟨f.toNat, by omega⟩
    subst hn
    have hk : n < 15 := by omega
    have h0 : 1 ≤ n := by omega
    rw [Int.toNat_natCast]
    clear h this h0
    match n, hk with
    | 0, _ => exact ⟨by decide, by decide⟩
    | 1, _ => exact ⟨by decide, by decide⟩
    | 2, _ => exact ⟨by decide, by decide⟩
    | 3, _ => exact ⟨by decide, by decide⟩
    | 4, _ => exact ⟨by decide, by decide⟩
    | 5, _ => exact ⟨by decide, by decide⟩
    | 6, _ => exact ⟨by decide, by decide⟩
    | 7, _ => exact ⟨by decide, by decide⟩
    | 8, _ => exact ⟨by decide, by decide⟩
    | 9, _ => exact ⟨by decide, by decide⟩
    | 10, _ => exact ⟨by decide, by decide⟩
    | 11, _ => exact ⟨by decide, by decide⟩
    | 12, _ => exact ⟨by decide, by decide⟩
    | 13, _ => exact ⟨by decide, by decide⟩
    | 14, _ => exact ⟨by decide, by decide⟩
  · exact ⟨by decide, by decide⟩
theorem nt_5 (x : Nd) (T : List Int) : ty5 (ntS x T) := by
  unfold ntS narS
  repeat' split
  all_goals first | exact fld_5 _ | exact pr_5 _ _ _ | exact sgl_5 _ _ | exact tif_5 ⟨by decide, by decide⟩ | exact (show ty5 1 from ⟨by decide, by decide⟩) | exact (show ty5 2 from ⟨by decide, by decide⟩) | exact (show ty5 0 from ⟨by decide, by decide⟩)
theorem ty_5 (L : List Nd) : ∀ t ∈ tyL L, ty5 t := by
  refine onD_ind (p := fun L => ∀ t ∈ tyL L, ty5 t) (fun t h => by cases h) (fun L x ih => ?_) L
  intro t ht
  rw [tyL_snoc] at ht
  rcases List.mem_append.1 ht with h | h
  · exact ih t h
  · rw [List.mem_singleton.1 h]; exact nt_5 _ _
theorem chk_len {q : Qy} (h : okQ q = true) : (chkL q).length = q.by'.length + q.sh.length := by
  rw [(chk_ok h).2]
  unfold colS
  rw [List.length_append, List.length_map, List.length_map]
theorem chk_5 (q : Qy) : ∀ t ∈ chkL q, ty5 t := fun t ht => by
  unfold chkL at ht
  split at ht
  · unfold colS at ht
    rcases List.mem_append.1 ht with h | h
    · obtain ⟨f, _, rfl⟩ := List.mem_map.1 h
      exact fld_5 f
    · obtain ⟨x, _, rfl⟩ := List.mem_map.1 h
      unfold colT
      split
      · exact ⟨by decide, by decide⟩
      · unfold tat
        split
        · exact ⟨by decide, by decide⟩
        · rw [List.getD_eq_getElem?_getD]
          cases hh : (tyL q.nodes)[x.2.toNat]? with
          | none => exact ⟨by decide, by decide⟩
          | some t => exact ty_5 _ t (List.mem_of_getElem? hh)
  · cases ht
theorem chk_I (q : Qy) : ∀ t ∈ chkL q, inI t := fun t ht => by
  have := chk_5 q t ht
  unfold ty5 at this
  unfold inI
  omega
end Go.Proofs.YtbenciieenbmeaaGreatDoor
/- answer: what nodes are worth bears their types (no program in it). -/
namespace Go.Proofs.YtbenciieenbmeaaGreatDoor
open Go Go.Shelf Go.ChangeShapes Go.WideShapes Go.ChangeAt Go.RowKit Go.Maps Go.Sort
set_option linter.unusedVariables false
set_option maxRecDepth 100000
set_option maxHeartbeats 4000000
/-- a cell of that type, or one that is over -/
def Ty0 (c : Cl) (t : Int) : Prop := c.ty = t ∨ c.ty = 0
theorem fit_ty (b : Bool) (c : Cl) : Ty0 (fit b c) c.ty := by
  cases b
  · exact .inr rfl
  · exact .inl rfl
theorem num_ty (t n : Int) : Ty0 (numC t n) t := fit_ty _ ⟨t, n, ⟨#[]⟩⟩
theorem mov_ty (n d : Int) : Ty0 (movC n d) 3 := fit_ty _ ⟨3, _, ⟨#[]⟩⟩
theorem fw_ty0 (f : Int) (hf : isF f = true) (r : Ro) : Ty0 (fwC f r) (fldS f).2 := by
  have h := isF_in hf
  have hc : f = 1 ∨ f = 2 ∨ f = 3 ∨ f = 4 ∨ f = 5 ∨ f = 6 ∨ f = 7 ∨ f = 8 ∨ f = 9 ∨ f = 10 ∨ f = 11 ∨ f = 12 ∨ f = 13 ∨ f = 14 := by omega
  clear h hf
  rcases hc with rfl | rfl | rfl | rfl | rfl | rfl | rfl | rfl | rfl | rfl | rfl | rfl | rfl | rfl
  · exact num_ty 1 _
  · exact num_ty 1 _
  · exact fit_ty _ ⟨3, _, ⟨#[]⟩⟩
  · exact num_ty 1 _
  · exact .inl rfl
  · exact .inl rfl
  · exact fit_ty _ ⟨5, _, ⟨#[]⟩⟩
  · exact fit_ty _ ⟨5, _, ⟨#[]⟩⟩
  · exact fit_ty _ ⟨5, _, ⟨#[]⟩⟩
  · exact .inl rfl
  · exact .inl rfl
  · exact fit_ty _ ⟨1, _, ⟨#[]⟩⟩
  · exact fit_ty _ ⟨1, _, ⟨#[]⟩⟩
  · exact .inl rfl
theorem rec_ty {op : Int} {l r : Cl} (h : recS op l.ty r.ty ≠ 0) : Ty0 (btwC op l r) (recS op l.ty r.ty) := by
  obtain ⟨hl, hr⟩ := rec_nz h
  unfold recS at h ⊢
  cases hf : (List.range 11).find? (fun k => rB k op l.ty r.ty) with
  | none => rw [hf] at h; exact absurd rfl h
  | some k =>
    have hk : k < 11 := by
      have := List.mem_of_find?_eq_some hf
      simpa using this
    have hb := List.find?_some hf
    rw [rB_iff] at hb
    obtain ⟨h1, h2, h3⟩ := hb
    show Ty0 (btwC op l r) (rc k).2.2.2
    obtain ⟨lt, ln, lx⟩ := l
    obtain ⟨rt, rn, rx⟩ := r
    simp only at hl hr h2 h3
    subst h1 h2 h3
    unfold btwC
    rw [if_neg (by simp only; omega)]
    clear hf h
    match k, hk with
    | 0, _ => first | exact mov_ty _ _ | exact num_ty 1 _ | exact fit_ty _ ⟨_, _, ⟨#[]⟩⟩
    | 1, _ => first | exact mov_ty _ _ | exact num_ty 1 _ | exact fit_ty _ ⟨_, _, ⟨#[]⟩⟩
    | 2, _ => first | exact mov_ty _ _ | exact num_ty 1 _ | exact fit_ty _ ⟨_, _, ⟨#[]⟩⟩
    | 3, _ => first | exact mov_ty _ _ | exact num_ty 1 _ | exact fit_ty _ ⟨_, _, ⟨#[]⟩⟩
    | 4, _ => first | exact mov_ty _ _ | exact num_ty 1 _ | exact fit_ty _ ⟨_, _, ⟨#[]⟩⟩
    | 5, _ => first | exact mov_ty _ _ | exact num_ty 1 _ | exact fit_ty _ ⟨_, _, ⟨#[]⟩⟩
    | 6, _ => first | exact mov_ty _ _ | exact num_ty 1 _ | exact fit_ty _ ⟨_, _, ⟨#[]⟩⟩
    | 7, _ => first | exact mov_ty _ _ | exact num_ty 1 _ | exact fit_ty _ ⟨_, _, ⟨#[]⟩⟩
    | 8, _ => first | exact mov_ty _ _ | exact num_ty 1 _ | exact fit_ty _ ⟨_, _, ⟨#[]⟩⟩
    | 9, _ => first | exact mov_ty _ _ | exact num_ty 1 _ | exact fit_ty _ ⟨_, _, ⟨#[]⟩⟩
    | 10, _ => first | exact mov_ty _ _ | exact num_ty 1 _ | exact fit_ty _ ⟨_, _, ⟨#[]⟩⟩
/-- values that bear types -/
def VTy (V : List Cl) (T : List Int) : Prop := V.length = T.length ∧ ∀ (k : Nat) c t, V[k]? = some c → T[k]? = some t → Ty0 c t
theorem vat_ty {V : List Cl} {T : List Int} (h : VTy V T) (i : Int) : Ty0 (vat V i) (tat T i) ∨ tat T i = 0 := by
  by_cases ht : tat T i = 0
  · exact .inr ht
  · obtain ⟨h0, h1⟩ := tat_nz ht
    obtain ⟨k, rfl, hk, e⟩ := tat_in h0 h1
    left
    have hkv : k < V.length := by rw [h.1]; exact hk
    have e2 : vat V (k : Int) = V[k] := by
      unfold vat
      simp [hkv]
    rw [e, e2]
    exact h.2 k _ _ (List.getElem?_eq_getElem hkv) (List.getElem?_eq_getElem hk)
theorem opp_ty {op : Int} {c : Cl} {t : Int} (h : Ty0 c t) (hn : sgl op t ≠ 0) : Ty0 (opp c) (sgl op t) := by
  unfold opp
  rcases h with h | h
  · by_cases c0 : c.ty = 0
    · rw [if_pos c0]; exact .inr c0
    · rw [if_neg c0]
      unfold sgl at hn ⊢
      by_cases o3 : op = 3
      · rw [if_pos o3] at hn ⊢
        have h4 := tif_nz hn
        rw [h4]
        rw [beq_iff_eq] at h4
        rw [if_pos (by rw [h, h4])]
        exact .inl rfl
      · rw [if_neg o3] at hn ⊢
        have h4 := tif_nz hn
        rw [h4]
        simp only [Bool.or_eq_true, beq_iff_eq] at h4
        rw [if_neg (by rw [h]; omega), h]
        exact num_ty t _
  · rw [if_pos h]; exact .inr h
theorem pair_ty {op : Int} {l r : Cl} {a b : Int} (hl : Ty0 l a) (hr : Ty0 r b) (hn : prS op a b ≠ 0) : Ty0 (if op = 2 then cho l r true else if op = 1 then cho l r false else btwC op l r) (prS op a b) := by
  have hcho : ∀ bb, Ty0 l 4 → Ty0 r 4 → Ty0 (cho l r bb) 4 := fun bb h1 h2 => by
    unfold cho
    split
    · exact h1
    · exact h2
  unfold prS at hn ⊢
  by_cases o1 : op = 1 ∨ op = 2
  · rw [if_pos o1] at hn ⊢
    have h4 := tif_nz hn
    rw [h4]
    simp only [Bool.and_eq_true, beq_iff_eq] at h4
    rw [h4.1] at hl
    rw [h4.2] at hr
    by_cases o2 : op = 2
    · rw [if_pos o2]; exact hcho _ hl hr
    · rw [if_neg o2, if_pos (by omega)]; exact hcho _ hl hr
  · rw [if_neg o1] at hn ⊢
    rw [if_neg (by omega), if_neg (by omega)]
    by_cases hz : l.ty = 0 ∨ r.ty = 0
    · unfold btwC
      rw [if_pos hz]
      exact .inr rfl
    · have ea : l.ty = a := hl.resolve_right (fun e => hz (.inl e))
      have eb : r.ty = b := hr.resolve_right (fun e => hz (.inr e))
      subst ea eb
      have htru : ¬ op = 12 → ¬ op = 13 → ¬ op = 14 → ∀ bb, tif bb 4 ≠ 0 → Ty0 (btwC op l r) (tif bb 4) := fun q1 q2 q3 bb hb => by
        unfold btwC
        rw [if_neg hz, if_neg q1, if_neg q2, if_neg q3, tif_nz hb]
        exact .inl rfl
      by_cases o4 : op = 4 ∨ op = 5
      · rw [if_pos o4] at hn ⊢; exact htru (by omega) (by omega) (by omega) _ hn
      · rw [if_neg o4] at hn ⊢
        by_cases o6 : op = 6 ∨ op = 7 ∨ op = 8 ∨ op = 9
        · rw [if_pos o6] at hn ⊢; exact htru (by omega) (by omega) (by omega) _ hn
        · rw [if_neg o6] at hn ⊢
          by_cases o10 : op = 10 ∨ op = 11
          · rw [if_pos o10] at hn ⊢; exact htru (by omega) (by omega) (by omega) _ hn
          · rw [if_neg o10] at hn ⊢
            exact rec_ty hn
theorem wr_ty {x : Nd} {r : Ro} {V : List Cl} {T : List Int} (h : VTy V T) (hn : ntS x T ≠ 0) : Ty0 (wrC x r V) (ntS x T) := by
  unfold ntS narS at hn ⊢
  unfold wrC
  by_cases c16 : x.op = 16
  · rw [if_pos c16] at hn ⊢
    rw [if_pos c16]
    have hf : isF x.field = true := by
      cases e : isF x.field with
      | true => rfl
      | false =>
        have hz : (fldS x.field).2 = 0 := by unfold fldS; rw [e]; rfl
        exact absurd hz hn
    exact fw_ty0 _ hf r
  · rw [if_neg c16] at hn ⊢
    rw [if_neg c16]
    by_cases c17 : x.op = 17
    · rw [if_pos c17, if_pos c17]; exact num_ty 1 _
    · rw [if_neg c17] at hn ⊢
      rw [if_neg c17]
      by_cases c18 : x.op = 18
      · rw [if_pos c18, if_pos c18]; exact .inl rfl
      · rw [if_neg c18] at hn ⊢
        rw [if_neg c18]
        by_cases c19 : x.op = 19
        · rw [if_pos c19] at hn ⊢
          rw [if_pos c19]
          have := tif_nz (show tif (dayB x.num) 3 ≠ 0 from hn)
          left
          show (3 : Int) = tif (dayB x.num) 3
          rw [this]; rfl
        · rw [if_neg c19] at hn ⊢
          rw [if_neg c19]
          by_cases c20 : x.op = 20
          · rw [if_pos c20] at hn ⊢
            rw [if_pos c20]
            have := tif_nz (show tif (x.num == 0 || x.num == 1) 4 ≠ 0 from hn)
            left
            show (4 : Int) = tif (x.num == 0 || x.num == 1) 4
            rw [this]; rfl
          · rw [if_neg c20] at hn ⊢
            rw [if_neg c20]
            by_cases c3 : x.op = 3 ∨ x.op = 15
            · rw [if_pos c3] at hn ⊢
              rw [if_pos c3]
              have hn' : sgl x.op (tat T x.left) ≠ 0 := hn
              show Ty0 (opp (vat V x.left)) (sgl x.op (tat T x.left))
              exact opp_ty ((vat_ty h x.left).resolve_right (sgl_nz hn')) hn'
            · rw [if_neg c3] at hn ⊢
              rw [if_neg c3]
              by_cases c14 : 1 ≤ x.op ∧ x.op ≤ 14
              · rw [if_pos c14] at hn ⊢
                have hn' : prS x.op (tat T x.left) (tat T x.right) ≠ 0 := hn
                obtain ⟨z1, z2⟩ := pr_nz hn'
                exact pair_ty ((vat_ty h x.left).resolve_right z1) ((vat_ty h x.right).resolve_right z2) hn'
              · rw [if_neg c14] at hn; exact absurd rfl hn
theorem val_ty {L : List Nd} (hz : ∀ t ∈ tyL L, t ≠ 0) (r : Ro) : VTy (vlL L r) (tyL L) := by
  revert hz
  refine onD_ind (p := fun L => (∀ t ∈ tyL L, t ≠ 0) → VTy (vlL L r) (tyL L)) (fun _ => ⟨rfl, fun k c t h => by cases h⟩) (fun L x ih => ?_) L
  intro hz
  rw [tyL_snoc] at hz ⊢
  rw [vlL_snoc]
  have h1 := ih (fun t ht => hz t (List.mem_append_left _ ht))
  refine ⟨by rw [List.length_append, List.length_append, h1.1]; rfl, fun k c t hc ht => ?_⟩
  by_cases hk : k < (tyL L).length
  · rw [List.getElem?_append_left hk] at ht
    rw [List.getElem?_append_left (by rw [h1.1]; exact hk)] at hc
    exact h1.2 k c t hc ht
  · rw [List.getElem?_append_right (by omega)] at ht
    rw [List.getElem?_append_right (by rw [h1.1]; omega), h1.1] at hc
    obtain ⟨n, hn⟩ : ∃ n, n = k - (tyL L).length := ⟨_, rfl⟩
    rw [← hn] at hc ht
    cases n with
    | zero =>
      cases hc
      cases ht
      exact wr_ty h1 (hz _ (List.mem_append_right _ (List.mem_singleton.2 rfl)))
    | succ n => cases ht
end Go.Proofs.YtbenciieenbmeaaGreatDoor
namespace Go.Proofs
open Go.RowKit Go.Sort Go.Shelf

def Tryz.sortL0_ren : Go.Shelf.Ren := ⟨fun | 6 => 32 | 15 => 52 | 14 => 51 | 28 => 93 | 29 => 94 | 20 => 85 | 21 => 86 | 22 => 87 | 23 => 88 | 24 => 89 | 25 => 90 | 26 => 91 | 27 => 92 | 46 => 111 | 47 => 112 | 48 => 113 | 49 => 114 | 50 => 115 | 57 => 131 | n => n, fun | 22 => 32 | 24 => 46 | 25 => 85 | 3 => 3 | 39 => 124 | 0 => 0 | 53 => 177 | 55 => 163 | 4 => 4 | 46 => 171 | 45 => 170 | 50 => 152 | 5 => 5 | 9 => 9 | 66 => 215 | 70 => 219 | 76 => 237 | 77 => 238 | n => n, fun | n => n⟩
theorem Tryz.sortL0 : Go.Proofs.SlLaysF0.n6 Tryz.prog Tryz.sortL0_ren := {
  mixed := by kernel_rfl
  f6 := ⟨Tryz.f32.name, by decide, Tryz.func32.trans (congrArg some (by kernel_rfl))⟩
  f14 := ⟨Tryz.f51.name, by decide, Tryz.func51.trans (congrArg some (by kernel_rfl))⟩
  f15 := Tryz.func52.trans (congrArg some (by kernel_rfl))
  f20 := ⟨Tryz.f85.name, by decide, Tryz.func85.trans (congrArg some (by kernel_rfl))⟩
  f21 := ⟨Tryz.f86.name, by decide, Tryz.func86.trans (congrArg some (by kernel_rfl))⟩
  f22 := ⟨Tryz.f87.name, by decide, Tryz.func87.trans (congrArg some (by kernel_rfl))⟩
  f23 := ⟨Tryz.f88.name, by decide, Tryz.func88.trans (congrArg some (by kernel_rfl))⟩
  f24 := ⟨Tryz.f89.name, by decide, Tryz.func89.trans (congrArg some (by kernel_rfl))⟩
  f25 := ⟨Tryz.f90.name, by decide, Tryz.func90.trans (congrArg some (by kernel_rfl))⟩
  f26 := ⟨Tryz.f91.name, by decide, Tryz.func91.trans (congrArg some (by kernel_rfl))⟩
  f27 := ⟨Tryz.f92.name, by decide, Tryz.func92.trans (congrArg some (by kernel_rfl))⟩
  f28 := Tryz.func93.trans (congrArg some (by kernel_rfl))
  f29 := Tryz.func94.trans (congrArg some (by kernel_rfl))
  f46 := ⟨Tryz.f111.name, by decide, Tryz.func111.trans (congrArg some (by kernel_rfl))⟩
  f47 := Tryz.func112.trans (congrArg some (by kernel_rfl))
  f48 := Tryz.func113.trans (congrArg some (by kernel_rfl))
  f49 := ⟨Tryz.f114.name, by decide, Tryz.func114.trans (congrArg some (by kernel_rfl))⟩
  f50 := ⟨Tryz.f115.name, by decide, Tryz.func115.trans (congrArg some (by kernel_rfl))⟩
  f57 := ⟨Tryz.f131.name, by decide, Tryz.func131.trans (congrArg some (by kernel_rfl))⟩
  t0 := Tryz.underlying0
  a0 := Tryz.isAgg0
  z0 := Tryz.sizeOf0
  v0 := Tryz.zeroValue0
  t3 := Tryz.underlying3
  a3 := Tryz.isAgg3
  z3 := Tryz.sizeOf3
  v3 := Tryz.zeroValue3
  t4 := Tryz.underlying4
  a4 := Tryz.isAgg4
  z4 := Tryz.sizeOf4
  v4 := Tryz.zeroValue4
  t5 := Tryz.underlying5
  a5 := Tryz.isAgg5
  z5 := Tryz.sizeOf5
  v5 := Tryz.zeroValue5
  t9 := Tryz.underlying9
  a9 := Tryz.isAgg9
  z9 := Tryz.sizeOf9
  v9 := Tryz.zeroValue9
  t22 := Tryz.underlying32
  a22 := Tryz.isAgg32
  z22 := Tryz.sizeOf32
  v22 := Tryz.zeroValue32
  t25 := Tryz.underlying85
  a25 := Tryz.isAgg85
  z25 := Tryz.sizeOf85
  v25 := Tryz.zeroValue85
  t39 := Tryz.underlying124
  a39 := Tryz.isAgg124
  z39 := Tryz.sizeOf124
  v39 := Tryz.zeroValue124
  t45 := Tryz.underlying170
  a45 := Tryz.isAgg170
  z45 := Tryz.sizeOf170
  v45 := Tryz.zeroValue170
  t46 := Tryz.underlying171
  a46 := Tryz.isAgg171
  z46 := Tryz.sizeOf171
  v46 := Tryz.zeroValue171
  t50 := Tryz.underlying152
  a50 := Tryz.isAgg152
  z50 := Tryz.sizeOf152
  v50 := Tryz.zeroValue152
  t53 := Tryz.underlying177
  a53 := Tryz.isAgg177
  z53 := Tryz.sizeOf177
  v53 := Tryz.zeroValue177
  t55 := Tryz.underlying163
  a55 := Tryz.isAgg163
  z55 := Tryz.sizeOf163
  v55 := Tryz.zeroValue163
  t66 := Tryz.underlying215
  a66 := Tryz.isAgg215
  z66 := Tryz.sizeOf215
  v66 := Tryz.zeroValue215
  t70 := Tryz.underlying219
  a70 := Tryz.isAgg219
  z70 := Tryz.sizeOf219
  v70 := Tryz.zeroValue219
  t76 := Tryz.underlying237
  a76 := Tryz.isAgg237
  z76 := Tryz.sizeOf237
  v76 := Tryz.zeroValue237
  t77 := Tryz.underlying238
  a77 := Tryz.isAgg238
  z77 := Tryz.sizeOf238
  v77 := Tryz.zeroValue238 }
end Go.Proofs
/- answer: lines sorted, be there any or none; a table's rows as they are made. -/
namespace Go.Proofs.YtbenciieenbmeaaGreatDoor
open Go Go.Shelf Go.ChangeShapes Go.WideShapes Go.ChangeAt Go.RowKit Go.Maps Go.Sort
set_option linter.unusedVariables false
set_option maxRecDepth 100000
set_option maxHeartbeats 4000000
theorem sort_both {B : Nat} {W : World} {lb : Nat} {ss : List Value} {LL : List (List Cl)} {n : Nat} (h : Lns B W lb ss LL) (hn : LL.length = n) (hnb : n ≤ 4194304) {m : Nat} (hm : ∀ L ∈ LL, L.length = m) {kv : Nat} {pK : Option Addr} {cK : Nat} {KS : List (Int × Bool)} (hkv : Bk W kv 25 [.slice pK KS.length cK]) (hK : Lies kO W pK KS) (hKb : KS.length ≤ 16777216) (hKl : ∀ b o, pK = some ⟨b, o, none⟩ → b ≠ lb) (hin : ∀ k ∈ KS, 0 ≤ k.1 ∧ k.1 < (m : Int)) :
    Calls Tryz.prog 32 #[.slice (some ⟨lb, 0, none⟩) n n, .func (.func 54) #[] #[.pointer (some ⟨kv, 0, none⟩)]] W (SortOut W lb KS LL) := by
  by_cases hpos : 0 < n
  · exact sort_lines h hn hpos hnb hm hkv hK hKb hKl hin
  · have h0 : n = 0 := by omega
    subst h0
    have he : LL = [] := List.eq_nil_of_length_eq_zero hn
    subst he
    have hc := AnyF.slices_SortFunc_none Tryz.sortL0 (some ⟨lb, 0, none⟩) 0 (.func (.func 54) #[] #[.pointer (some ⟨kv, 0, none⟩)]) W
    refine Calls.mono (show Calls Tryz.prog 32 _ W _ from hc) ?_
    rintro e w' ⟨rfl, rfl⟩
    exact ⟨rfl, Fr.refl _ _, [], List.Perm.refl _, List.Pairwise.nil, h.blk.lt, fun i hi => by cases hi⟩
/-- slices of cells in a row -/
def kS : Kd (Option Addr × Nat × Nat) := ⟨fun x => [.slice x.1 x.2.1 x.2.2], 1, 32, 46, 24⟩
theorem kS_ok : KdOK kS := kd_ok (fun _ => rfl) (by decide) (fun x u hu => by simp [kS] at hu; subst hu; rfl) Tryz.underlying32 (z := .slice none 0 0) (by kernel_rfl) rfl (by decide)
/-- a table that is being made: its types, its rows so far -/
structure Tb (B : Nat) (w : World) (t : Nat) (vT vR : Value) (LL : List (List Cl)) : Prop where
  blk : Bk w t 34 [vT, vR]
  ex : ∃ ts, ts.length = LL.length ∧ w.ownsRow B kS.e kS.s vR LL.length (kS.flat ts) ∧ ∀ i (h : i < LL.length), ∃ p c, ts[i]? = some (p, LL[i].length, c) ∧ Apt kC w vR p LL[i] ∧ ∀ b o, p = some ⟨b, o, none⟩ → B ≤ b
  lt : t < B
theorem Tb.begin {B : Nat} {w : World} {t : Nat} {vT : Value} (h : Bk w t 34 [vT, .slice none 0 0]) (hlt : t < B) : Tb B w t vT (.slice none 0 0) [] :=
  ⟨h, ⟨[], rfl, ⟨by simp [Kd.flat], .inl ⟨rfl, rfl⟩⟩, fun i hi => by cases hi⟩, hlt⟩
theorem Tb.below {B : Nat} {w w' : World} {t : Nat} {vT vR : Value} {LL : List (List Cl)} (h : Tb B w t vT vR LL) (hb : Below w.heap.size w w') : Tb B w' t vT vR LL := by
  obtain ⟨ts, h1, h2, h3⟩ := h.ex
  refine ⟨h.blk.same (hb.block _ h.blk.lt), ⟨ts, h1, row_keep h2 (fun g hg => hb.block g (row_block h2 hg).2.1), fun i hi => ?_⟩, h.lt⟩
  obtain ⟨p, c, e1, e2, e3⟩ := h3 i hi
  exact ⟨p, c, e1, e2.below hb, e3⟩
theorem Tb.ne {B : Nat} {w : World} {t : Nat} {vT vR : Value} {LL : List (List Cl)} (h : Tb B w t vT vR LL) : vR.ownBlock ≠ some t := fun e => by
  obtain ⟨ts, h1, h2, h3⟩ := h.ex
  have := (row_block h2 e).1
  have := h.lt
  omega
theorem Tb.shape {B : Nat} {w : World} {t : Nat} {vT vR : Value} {LL : List (List Cl)} (h : Tb B w t vT vR LL) : ∃ p c, vR = .slice p LL.length c := by
  obtain ⟨ts, h1, h2, h3⟩ := h.ex
  rcases h2.2 with ⟨e, h4⟩ | ⟨g, cap, cur, e, h4⟩
  · exact ⟨none, 0, by rw [e, h4]⟩
  · exact ⟨_, _, e⟩
/-- one row more: it was made behind X, when the table stood already -/
theorem Tb.more {B : Nat} {X w : World} {t : Nat} {vT vR : Value} {LL : List (List Cl)} (h : Tb B X t vT vR LL) (hB : B ≤ X.heap.size) {p : Option Addr} {n c : Nat} {L : List Cl} (hR : Rw kC X w (.slice p n c) n L) (hl : LL.length ≤ 16777216) :
    ∃ p' c' w4, (Builtin.append_ #[32, 32] 32 #[vR, .slice (some ⟨w.heap.size, 0, none⟩) 1 1]).run Tryz.prog (w.alloc (.cells #[.slice p n c] 46)) = .ok (.slice p' (LL.length + 1) c') w4 ∧ w4.cell? ⟨t, 1, none⟩ = some vR ∧ w4.frozen? ⟨t, 1, none⟩ = false ∧ Fr X w4 (fun i => vR.ownBlock = some i) ∧
      Tb B (w4.setCell ⟨t, 1, none⟩ (.slice p' (LL.length + 1) c')) t vT (.slice p' (LL.length + 1) c') (LL ++ [L]) ∧ Fr X (w4.setCell ⟨t, 1, none⟩ (.slice p' (LL.length + 1) c')) (fun i => i = t ∨ vR.ownBlock = some i) := by
  have hb := hR.bel
  have hw := h.below hb
  obtain ⟨ts, h1, h2, h3⟩ := hw.ex
  have hsz := hb.size
  obtain ⟨p', c', w4, r4, o4, b4, s4, l4, z4⟩ := app1 kS_ok h2 (by omega) (p, n, c) #[.slice p n c] rfl 32 (by omega)
  have htl := hw.blk.lt
  have hblk4 : Bk w4 t 34 [vT, vR] := hw.blk.same (s4 t htl hw.ne)
  have hapt : Apt kC w vR p L := by
    refine ⟨own_lies kC_ok hR.len hR.row, fun b o e => ?_⟩
    have hob : (Value.slice p n c).ownBlock = some b := by rw [e]; rfl
    obtain ⟨q1, q2, _⟩ := row_block hR.row hob
    refine ⟨q2, fun e2 => ?_⟩
    obtain ⟨ts0, _, h20, _⟩ := h.ex
    have := (row_block h20 e2).2.1
    omega
  have htB := h.lt
  have hpt : ∀ b o, p = some ⟨b, o, none⟩ → B ≤ b := fun b o e => by
    have hob : (Value.slice p n c).ownBlock = some b := by rw [e]; rfl
    have q1 := (row_block hR.row hob).1
    omega
  have hne4 : (Value.slice p' (LL.length + 1) c').ownBlock ≠ some t := by
    rcases l4 with e | e
    · rw [e]; exact h.ne
    · rw [e]; intro e2; have := Option.some.inj e2; omega
  have hF4 : Fr X w4 (fun i => vR.ownBlock = some i) := by
    have h0 : Fr w w4 (fun i => vR.ownBlock = some i) := ⟨b4.os, b4.tape, b4.output, z4, fun k hk hne => s4 k hk hne⟩
    exact (Fr.of_below hb _).trans h0 (fun _ _ h => h)
  have hsz5 : (w4.setCell ⟨t, 1, none⟩ (.slice p' (LL.length + 1) c')).heap.size = w4.heap.size := by simp [World.setCell]
  have hset : ∀ m : Nat, m ≠ t → (w4.setCell ⟨t, 1, none⟩ (.slice p' (LL.length + 1) c')).heap[m]? = w4.heap[m]? := fun m hm => Below.heap_setCell _ _ _ _ hm
  have hmove : ∀ {p0 : Option Addr} {L0 : List Cl}, Apt kC w vR p0 L0 → (∀ b o, p0 = some ⟨b, o, none⟩ → B ≤ b) → Apt kC (w4.setCell ⟨t, 1, none⟩ (.slice p' (LL.length + 1) c')) (.slice p' (LL.length + 1) c') p0 L0 := fun {p0 L0} ha hb0 => by
    have h4 := ha.app s4 l4 z4
    refine ⟨⟨h4.l.1, fun k hk => ?_⟩, fun b o e => ⟨by rw [hsz5]; exact (h4.b b o e).1, (h4.b b o e).2⟩⟩
    obtain ⟨b, off, e, hlt, hr⟩ := h4.l.2 k hk
    exact ⟨b, off, e, by rw [hsz5]; exact hlt, fun j u hu => (World.cell?_of_block (a := ⟨b, off + k * kC.s + j, none⟩) (hset b (by have := hb0 b off e; omega))).trans (hr j u hu)⟩
  refine ⟨p', c', w4, r4, hblk4.cell 1, by simp [World.frozen?, show w4.heap[t]? = some _ from hblk4], hF4, ⟨?_, ⟨ts ++ [(p, n, c)], by rw [List.length_append, List.length_append, h1]; rfl, ?_, fun i hi => ?_⟩, htB⟩, ?_⟩
  · unfold Bk at hblk4 ⊢
    rw [setC hblk4]
    simp
  · rw [show (LL ++ [L]).length = LL.length + 1 by simp]
    exact row_keep o4 (fun g hg => hset g (fun e => hne4 (by rw [hg, e])))
  · rw [List.length_append, List.length_singleton] at hi
    by_cases hi2 : i < LL.length
    · obtain ⟨p0, c0, e1, e2, e3⟩ := h3 i hi2
      refine ⟨p0, c0, ?_, ?_, e3⟩
      · rw [List.getElem?_append_left (by omega), e1, List.getElem_append_left hi2]
      · rw [List.getElem_append_left hi2]; exact hmove e2 e3
    · have e : i = LL.length := by omega
      subst e
      refine ⟨p, c, ?_, ?_, hpt⟩
      · have e : (LL ++ [L])[LL.length] = L := by simp
        rw [e, hR.len, List.getElem?_append_right (by omega), h1, Nat.sub_self]
        rfl
      · have e : (LL ++ [L])[LL.length] = L := by simp
        rw [e]
        exact hmove hapt hpt
  · exact (hF4.mono (fun i _ h => .inr h)).setCell (p := ⟨t, 1, none⟩) (.inl (.inl rfl)) _
end Go.Proofs.YtbenciieenbmeaaGreatDoor
/- answer: Scan 20. -/
namespace Go.Proofs.YtbenciieenbmeaaGreatDoor
open Go Go.Shelf Go.ChangeShapes Go.WideShapes Go.ChangeAt Go.RowKit Go.Maps Go.Sort
set_option linter.unusedVariables false
set_option maxRecDepth 100000
set_option maxHeartbeats 4000000
def ld34 (x : Value) : Sem Value := Instr.loadAt 34 x
theorem ld34_is (x : Value) : Instr.loadAt 34 x = ld34 x := rfl
def st34 (x y : Value) : Sem Unit := Instr.storeAt 34 x y
theorem st34_is (x y : Value) : Instr.storeAt 34 x y = st34 x y := rfl
theorem sz34 : (Tryz.prog.info? 34).map (·.size) = some 2 := by kernel_rfl
theorem Bk.ld34 {X : World} {g : Nat} {x y : Value} (h : Bk X g 34 [x, y]) : (ld34 (.pointer (some ⟨g, 0, none⟩))).run Tryz.prog X = .ok (.agg #[x, y]) X :=
  run_loadAt_mid (P := Tryz.prog) X g 0 34 [x, y] _ (fun j u hu => by rw [h.cell, Nat.zero_add]; exact hu) Tryz.underlying34 rfl sz34
theorem lv34 {X : World} {g : Nat} {x y : Value} (h : Bk X g 34 [x, y]) : (loadVar 34 ⟨g, 0, none⟩).run Tryz.prog X = .ok (.agg #[x, y]) X := by
  have h := h.ld34
  unfold YtbenciieenbmeaaGreatDoor.ld34 at h
  simpa only [Instr.loadAt, Instr.sureAddr, Sem.run_bind, Sem.run_pure, Result.andThen_ok] using h
theorem Bk.st34 {X : World} {g : Nat} {x y : Value} (h : Bk X g 34 [x, y]) (u v : Value) (hu : u.oneCell' = true) (hv : v.oneCell' = true) : ∃ Y, (st34 (.pointer (some ⟨g, 0, none⟩)) (.agg #[u, v])).run Tryz.prog X = .ok () Y ∧ Bk Y g 34 [u, v] ∧ Fr X Y (fun i => i = g) := by
  have h' : Bk X g 34 ([] ++ [x, y] ++ []) := h
  obtain ⟨Y, y1, y2, y3⟩ := h'.store 34 #[u, v] rfl (by rw [sz34]; rfl) (by simp [hu, hv])
  exact ⟨Y, y1, y2, y3⟩
theorem Bk.st80 {X : World} {g : Nat} {x y z : Value} (h : Bk X g 80 [x, y, z]) (u v t : Value) (hu : u.oneCell' = true) (hv : v.oneCell' = true) (ht : t.oneCell' = true) : ∃ Y, (st80 (.pointer (some ⟨g, 0, none⟩)) (.agg #[u, v, t])).run Tryz.prog X = .ok () Y ∧ Bk Y g 80 [u, v, t] ∧ Fr X Y (fun i => i = g) := by
  have h' : Bk X g 80 ([] ++ [x, y, z] ++ []) := h
  obtain ⟨Y, y1, y2, y3⟩ := h'.store 80 #[u, v, t] rfl (by rw [sz80]; rfl) (by simp [hu, hv, ht])
  exact ⟨Y, y1, y2, y3⟩
theorem Lns.below {B : Nat} {w w' : World} {lb : Nat} {ss : List Value} {LL : List (List Cl)} (h : Lns B w lb ss LL) (hb : Below w.heap.size w w') : Lns B w' lb ss LL := by
  refine ⟨h.blk.same (hb.block _ h.blk.lt), h.lo, h.len, fun i hi => ?_⟩
  obtain ⟨p, c, e1, e2, e3⟩ := h.at' i hi
  exact ⟨p, c, e1, e2.below hb, fun b o e => ⟨(e3 b o e).1, Nat.lt_of_lt_of_le (e3 b o e).2 hb.size⟩⟩
theorem row_capn {w : World} {B e s n : Nat} {p : Option Addr} {c : Nat} {xs : List Value} (h : w.ownsRow B e s (.slice p n c) n xs) : n ≤ c := by
  obtain ⟨p2, c2, e2, hp0, hp1⟩ := row_slice h
  injection e2 with e2 _ e3
  subst e2
  subst e3
  cases p with
  | none => rw [(hp0 rfl).1]; exact Nat.zero_le _
  | some a => exact (hp1 a rfl).2.2.2
/-- a list that was made since then -/
def Nw (B : Nat) (p : Option Addr) : Prop := ∀ b o, p = some ⟨b, o, none⟩ → B ≤ b
/-- a table as it was answered: its types, its rows -/
def TblOut (B : Nat) (w : World) (v : Value) (T : List Int) (LL : List (List Cl)) : Prop :=
  ∃ pT cT pR cR ts, v = .agg #[.slice pT T.length cT, .slice pR LL.length cR] ∧ (Lies kI w pT T ∧ Nw B pT) ∧ (Lies kS w pR ts ∧ Nw B pR ∧ LL.length ≤ cR) ∧ ts.length = LL.length ∧ ∀ i (h : i < LL.length), ∃ p c, ts[i]? = some (p, LL[i].length, c) ∧ Lies kC w p LL[i] ∧ Nw B p
theorem TblOut.fr {B : Nat} {w w' : World} {v : Value} {T : List Int} {LL : List (List Cl)} {X : Nat → Prop} (h : TblOut B w v T LL) (hF : Fr w w' X) (hX : ∀ j, X j → j < B) : TblOut B w' v T LL := by
  obtain ⟨pT, cT, pR, cR, ts, h1, ⟨h2, h3⟩, ⟨h4, h5⟩, h6, h7⟩ := h
  refine ⟨pT, cT, pR, cR, ts, h1, ⟨h2.fr hF (fun b o e e2 => ?_), h3⟩, ⟨h4.fr hF (fun b o e e2 => ?_), h5⟩, h6, fun i hi => ?_⟩
  · have := h3 b o e; have := hX b e2; omega
  · have := h5.1 b o e; have := hX b e2; omega
  · obtain ⟨p, c, e1, e2, e3⟩ := h7 i hi
    exact ⟨p, c, e1, e2.fr hF (fun b o e e4 => by have := e3 b o e; have := hX b e4; omega), e3⟩
theorem TblOut.mono {B B' : Nat} {w : World} {v : Value} {T : List Int} {LL : List (List Cl)} (h : TblOut B w v T LL) (hb : B' ≤ B) : TblOut B' w v T LL := by
  obtain ⟨pT, cT, pR, cR, ts, h1, ⟨h2, h3⟩, ⟨h4, h5⟩, h6, h7⟩ := h
  refine ⟨pT, cT, pR, cR, ts, h1, ⟨h2, fun b o e => Nat.le_trans hb (h3 b o e)⟩, ⟨h4, fun b o e => Nat.le_trans hb (h5.1 b o e), h5.2⟩, h6, fun i hi => ?_⟩
  obtain ⟨p, c, e1, e2, e3⟩ := h7 i hi
  exact ⟨p, c, e1, e2, fun b o e => Nat.le_trans hb (e3 b o e)⟩
def scF (q : Qy) : List Int := onD q.by'
def scS (q : Qy) : List Ag := onD (shL (chkL q) q.by'.length q.sh)
def scP (q : Qy) : List Int := plL q (chkL q)
/-- what Scan answers -/
def ScanOut (W : World) (q : Qy) (R : List Ro) (e : Ending) (w' : World) : Prop :=
  Below W.heap.size W w' ∧ (okQ q = false → e = .returned (.tuple #[.agg #[.slice none 0 0, .slice none 0 0], .int .i64 140])) ∧
  (okQ q = true → overB q (scF q) (scS q) R = true → e = .returned (.tuple #[.agg #[.slice none 0 0, .slice none 0 0], .int .i64 11])) ∧
  (okQ q = true → overB q (scF q) (scS q) R = false → ∃ (v : Value) (LL : List (List Cl)), e = .returned (.tuple #[v, .int .i64 0]) ∧ LL.Perm (linesL q (scF q) (scS q) R) ∧ LL.Pairwise (fun a b => ¬ cmpK (keysL (scP q) q.ords (scF q).length) b a < 0) ∧
    TblOut W.heap.size w' v (chkL q) ((LL.take (limN q.lim LL.length)).map (rowL (scP q))))
/-- a query and rows that a scan can take -/
structure ScIn (W : World) (q : Qy) (a : Qa) (pR : Option Addr) (R : List Ro) : Prop where
  fl : Flds W
  mon : Mon W
  rc : Recs W
  mx : Mx W
  six : 6 ≤ W.heap.size
  qi : QIn W q a
  np : ∀ b o, a.pN = some ⟨b, o, none⟩ → b < W.heap.size
  nn : q.nodes.length ≤ 4194304
  nb : q.by'.length ≤ 1048576
  ns : q.sh.length ≤ 1048576
  no : q.ords.length ≤ 1048576
  nd : ∀ x ∈ q.nodes, NdOk x
  sI : ∀ x ∈ q.sh, inI x.1 ∧ inI x.2
  lI : inI q.lim
  rl : Lies kR W pR R
  rn : R.length ≤ 2097152
  ro : ∀ r ∈ R, RoOk r
section
attribute [local go_sem ↓] ld32_is ld34_is st34_is ld80_is st80_is
theorem scan_bad {W : World} {q : Qy} {a : Qa} {pR : Option Addr} {cR : Nat} {R : List Ro} (h : ScIn W q a pR R) (hok : okQ q = false) :
    Calls Tryz.prog 20 #[qV q a, .slice pR R.length cR] W (ScanOut W q R) := by
  obtain ⟨A, hA⟩ : ∃ A, A = (W.alloc (.cells (qC q a).toArray 27)).alloc (.cells #[.slice none 0 0, .slice none 0 0] 34) := ⟨_, rfl⟩
  have hAs : A.heap.size = W.heap.size + 2 := by rw [hA]; simp
  have hBA : Below W.heap.size W A := by rw [hA]; exact Below.a2 W _ _
  have b27 : Bk A W.heap.size 27 (qC q a) := by
    show A.heap[_]? = _
    rw [hA, Below.heap_alloc _ _ _ (by simp)]
    exact heap_new _ _
  have b34 : Bk A (W.heap.size + 1) 34 [.slice none 0 0, .slice none 0 0] := by
    show A.heap[_]? = _
    have := heap_new (W.alloc (.cells (qC q a).toArray 27)) (.cells #[.slice none 0 0, .slice none 0 0] 34)
    simp only [World.size_alloc] at this
    rw [hA]; exact this
  have l27 : (ld32 (.pointer (some ⟨W.heap.size, 0, none⟩))).run Tryz.prog A = .ok (qV q a) A := run_ld32 (fun j u hu => by rw [b27.cell, Nat.zero_add]; exact hu)
  have D29 := hide (check_any (h.fl.below hBA) (h.mon.below hBA) (h.rc.below hBA) (h.qi.below hBA))
  rw [(chk_bad hok).1] at D29
  have HEND : Hid (∀ w1, Below A.heap.size A w1 → ∃ Y, (st34 (.pointer (some ⟨W.heap.size + 1, 0, none⟩)) (.agg #[.slice none 0 0, .slice none 0 0])).run Tryz.prog w1 = .ok () Y ∧ (loadVar 34 ⟨W.heap.size + 1, 0, none⟩).run Tryz.prog Y = .ok (.agg #[.slice none 0 0, .slice none 0 0]) Y ∧ ScanOut W q R (.returned (.tuple #[.agg #[.slice none 0 0, .slice none 0 0], .int .i64 140])) Y) := fun w1 hb => by
    obtain ⟨Y, y1, y2, y3⟩ := (b34.same (hb.block _ b34.lt)).st34 (.slice none 0 0) (.slice none 0 0) rfl rfl
    exact ⟨Y, y1, lv34 y2, (hBA.trans (hb.mono hBA.size)).trans (y3.below (by have := hb.size; omega) (fun j hj e => by omega)), fun _ => rfl, fun h => (by rw [hok] at h; cases h), fun h => (by rw [hok] at h; cases h)⟩
  have HA := hide hA
  obtain ⟨nR, hnR⟩ : ∃ n, n = R.length := ⟨_, rfl⟩
  rw [← hnR]
  clear h hA hAs hBA b27 b34 hok hnR
  have l27 : (ld32 (.pointer (some ⟨W.heap.size, 0, none⟩))).run Tryz.prog A = .ok (.agg #[.slice a.pN q.nodes.length a.cN, .int .i64 q.wh, .slice a.pB q.by'.length a.cB, .slice a.pS q.sh.length a.cS, .slice a.pO q.ords.length a.cO, .int .i64 q.lim]) A := l27
  unfold qC at HA
  show Calls Tryz.prog 20 #[.agg #[.slice a.pN q.nodes.length a.cN, .int .i64 q.wh, .slice a.pB q.by'.length a.cB, .slice a.pS q.sh.length a.cS, .slice a.pO q.ords.length a.cO, .int .i64 q.lim], .slice pR nR cR] W _
  go_enter Tryz.func20, Tryz.ntmps20
  go_upto_region 1 with fail
  rw [← unhide HA]
  go_wp2_with fail
  refine (unhide D29).mono ?_
  rintro e w1 ⟨p, n, c, rfl, hr⟩
  obtain ⟨Y, y1, y2, y3⟩ := unhide HEND w1 hr.bel
  have HO := hide y3
  clear hr y3 l27 D29 HEND
  go_wp2_with fail
  refine bodyPost_ret (results_ct Tryz.results20 rfl rfl y2) rfl ?_
  exact unhide HO
end
end Go.Proofs.YtbenciieenbmeaaGreatDoor
