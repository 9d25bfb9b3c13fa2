/- typing: the document's tallies and the program's count: both ways to the plan agree. -/
import Derived.Test.YtcelllihidkphaaDoorRpF
namespace Go.Proofs.YtcelllihidkphaaDoor
open Go Go.Shelf Go.ChangeShapes Go.WideShapes Go.ChangeAt Go.RowKit Go.Maps
set_option linter.unusedVariables false
set_option linter.unusedSimpArgs false
set_option maxRecDepth 100000
set_option maxHeartbeats 4000000
/-- the document's tally: own, under, days, others -/
abbrev T4 := Int × Int × Int × Int
def T4.val (x : T4) : Value := .agg #[.int .i64 x.1, .int .i64 x.2.1, .int .i64 x.2.2.1, .int .i64 x.2.2.2]
def sngS (L : List Nd) (k : Nat) : T4 := if twoS L k [4] 6 18 then (1, 0, 0, 0) else if twoS L k [10] 6 18 then (0, 1, 0, 0) else if twoS L k [4, 6, 7, 8, 9] 3 19 then (0, 0, 1, 0) else (0, 0, 0, 1)
def and4 (x y : T4) : T4 := (twoI (x.1 + y.1), twoI (x.2.1 + y.2.1), twoI (x.2.2.1 + y.2.2.1), twoI (x.2.2.2 + y.2.2.2))
def tal1 (L : List Nd) (C : List T4) (k : Nat) : T4 := match L[k]? with
  | none => (0, 0, 0, 0)
  | some x => if x.op = 2 then and4 (C.getD x.left.toNat (0, 0, 0, 0)) (C.getD x.right.toNat (0, 0, 0, 0)) else sngS L k
def talTo (L : List Nd) : Nat → List T4
  | 0 => []
  | k + 1 => talTo L k ++ [tal1 L (talTo L k) k]
theorem tal_len (L : List Nd) : ∀ k, (talTo L k).length = k
  | 0 => rfl
  | k + 1 => by unfold talTo; rw [List.length_append, tal_len L k]; rfl
def Ok4 (x : T4) : Prop := (0 ≤ x.1 ∧ x.1 ≤ 2) ∧ (0 ≤ x.2.1 ∧ x.2.1 ≤ 2) ∧ (0 ≤ x.2.2.1 ∧ x.2.2.1 ≤ 2) ∧ (0 ≤ x.2.2.2 ∧ x.2.2.2 ≤ 2)
theorem ok4_zero : Ok4 (0, 0, 0, 0) := by unfold Ok4; simp
theorem and4_ok {x y : T4} (h : Ok4 x) (h' : Ok4 y) : Ok4 (and4 x y) := by
  unfold Ok4 at *
  unfold and4 twoI
  simp only
  refine ⟨?_, ?_, ?_, ?_⟩ <;> split <;> omega
theorem sng_ok (L : List Nd) (k : Nat) : Ok4 (sngS L k) := by
  unfold sngS Ok4
  split
  · simp
  · split
    · simp
    · split <;> simp
theorem getD4_ok {C : List T4} (h : ∀ x ∈ C, Ok4 x) (i : Nat) : Ok4 (C.getD i (0, 0, 0, 0)) := by
  rw [List.getD_eq_getElem?_getD]
  cases hi : C[i]? with
  | none => exact ok4_zero
  | some x => exact h x (List.mem_of_getElem? hi)
theorem tal_ok (L : List Nd) : ∀ k, ∀ x ∈ talTo L k, Ok4 x
  | 0, x, hx => by cases hx
  | k + 1, x, hx => by
    unfold talTo at hx
    rcases List.mem_append.1 hx with h | h
    · exact tal_ok L k x h
    · rw [List.mem_singleton] at h
      subst h
      unfold tal1
      cases L[k]? with
      | none => exact ok4_zero
      | some y =>
        simp only
        split
        · exact and4_ok (getD4_ok (tal_ok L k) _) (getD4_ok (tal_ok L k) _)
        · exact sng_ok L k
/-- what of a tally the program counts -/
def toP (x : T4) : P3 := (x.1, x.2.2.1, m2 (x.2.1 + x.2.2.2))
theorem toP_and {x y : T4} (h : Ok4 x) (h' : Ok4 y) : toP (and4 x y) = andS (toP x) (toP y) := by
  unfold Ok4 at h h'
  unfold toP and4 andS twoI m2
  simp only [Prod.mk.injEq]
  refine ⟨?_, ?_, ?_⟩
  · split <;> split <;> omega
  · split <;> split <;> omega
  · repeat' split
    all_goals omega
theorem two_ops {L : List Nd} {k : Nat} {O : List Int} {f o : Int} (h : twoS L k O f o = true) : ∃ x, L[k]? = some x ∧ O.contains x.op = true := by
  unfold twoS at h
  cases hk : L[k]? with
  | none => rw [hk] at h; simp at h
  | some x =>
    rw [hk] at h
    simp only [Bool.and_eq_true] at h
    exact ⟨x, rfl, h.1.1⟩
theorem toP_sng (L : List Nd) (k : Nat) : toP (sngS L k) = partS L k := by
  unfold sngS partS
  by_cases h1 : twoS L k [4] 6 18 = true
  · rw [if_pos h1, if_pos h1]; rfl
  · rw [if_neg h1, if_neg h1]
    by_cases h2 : twoS L k [10] 6 18 = true
    · rw [if_pos h2]
      have h3 : ¬ twoS L k [4, 6, 7, 8, 9] 3 19 = true := fun h3 => by
        obtain ⟨x, e, hx⟩ := two_ops h2
        obtain ⟨y, e', hy⟩ := two_ops h3
        rw [e] at e'
        cases e'
        simp at hx hy
        omega
      rw [if_neg h3]; rfl
    · rw [if_neg h2]
      by_cases h3 : twoS L k [4, 6, 7, 8, 9] 3 19 = true
      · rw [if_pos h3, if_pos h3]; rfl
      · rw [if_neg h3, if_neg h3]; rfl
theorem toP_getD (C : List T4) (i : Nat) : toP (C.getD i (0, 0, 0, 0)) = (C.map toP).getD i (0, 0, 0) := by
  rw [List.getD_eq_getElem?_getD, List.getD_eq_getElem?_getD, List.getElem?_map]
  cases C[i]? <;> rfl
theorem tal_map (L : List Nd) : ∀ k, (talTo L k).map toP = cndTo L k
  | 0 => rfl
  | k + 1 => by
    unfold talTo cndTo
    rw [List.map_append, tal_map L k]
    congr 1
    rw [List.map_cons, List.map_nil]
    congr 1
    unfold tal1 cnd1
    cases L[k]? with
    | none => rfl
    | some y =>
      simp only
      by_cases h : y.op = 2
      · rw [if_pos h, if_pos h, toP_and (getD4_ok (tal_ok L k) _) (getD4_ok (tal_ok L k) _), toP_getD, toP_getD, tal_map L k]
      · rw [if_neg h, if_neg h, toP_sng]
def talS (q : Qy) : T4 := (talTo q.nodes (q.wh.toNat + 1)).getD q.wh.toNat (0, 0, 0, 0)
theorem tal_cnd (q : Qy) : toP (talS q) = cndS q := by unfold talS cndS; rw [toP_getD, tal_map]
theorem talS_ok (q : Qy) : Ok4 (talS q) := getD4_ok (tal_ok _ _) _
/-- the document's way to the plan, at a bare sum with a condition -/
def rplS (q : Qy) : Int := match q.nodes[q.wh.toNat]? with
  | none => 1
  | some x => if x.op ≠ 2 ∧ (talS q).1 + (talS q).2.1 = 1 then 2 else if (talS q).1 = 1 ∧ (talS q).2.1 = 0 ∧ 0 < (talS q).2.2.1 ∧ (talS q).2.2.2 = 0 then 3 else 1
theorem dly_tal (q : Qy) : dlyS (cndS q) = true ↔ ((talS q).1 = 1 ∧ (talS q).2.1 = 0 ∧ 0 < (talS q).2.2.1 ∧ (talS q).2.2.2 = 0) := by
  have h := talS_ok q
  rw [← tal_cnd]
  unfold Ok4 at h
  unfold dlyS toP m2
  simp only [Bool.and_eq_true, beq_iff_eq, decide_eq_true_eq]
  constructor
  · rintro ⟨h1, h2, h3⟩
    refine ⟨h1, ?_, h2, ?_⟩ <;> (split at h3 <;> omega)
  · rintro ⟨h1, h2, h3, h4⟩
    refine ⟨h1, h3, ?_⟩
    rw [h2, h4]; rfl
theorem two_split (L : List Nd) (k : Nat) : twoS L k [4, 10] 6 18 = (twoS L k [4] 6 18 || twoS L k [10] 6 18) := by
  unfold twoS
  cases L[k]? with
  | none => rfl
  | some x =>
    simp only
    by_cases h4 : x.op = 4
    · rw [h4]; simp
    · by_cases h10 : x.op = 10
      · rw [h10]; simp
      · have e1 : ([4, 10] : List Int).contains x.op = false := by simp; omega
        have e2 : ([4] : List Int).contains x.op = false := by simp; omega
        have e3 : ([10] : List Int).contains x.op = false := by simp; omega
        rw [e1, e2, e3]; rfl
theorem tal_at {q : Qy} {x : Nd} (h : q.nodes[q.wh.toNat]? = some x) (hx : x.op ≠ 2) : talS q = sngS q.nodes q.wh.toNat := by
  unfold talS
  rw [List.getD_eq_getElem?_getD]
  show ((talTo q.nodes q.wh.toNat ++ [tal1 q.nodes (talTo q.nodes q.wh.toNat) q.wh.toNat])[q.wh.toNat]?).getD _ = _
  rw [List.getElem?_append_right (by rw [tal_len]; exact Nat.le_refl _), tal_len, Nat.sub_self]
  show tal1 _ _ _ = _
  unfold tal1
  rw [h]
  simp only
  rw [if_neg hx]
theorem rpl_is {q : Qy} (hb : bareS q = true) (hw : ¬ q.wh = -1) (hin : q.wh.toNat < q.nodes.length) : planS q = rplS q := by
  obtain ⟨x, hx⟩ : ∃ x, q.nodes[q.wh.toNat]? = some x := ⟨_, List.getElem?_eq_getElem hin⟩
  unfold planS rplS
  rw [if_pos hb, if_neg hw, hx]
  simp only
  have h2 : twoS q.nodes q.wh.toNat [4, 10] 6 18 = true ↔ (x.op ≠ 2 ∧ (talS q).1 + (talS q).2.1 = 1) := by
    by_cases ho : x.op = 2
    · constructor
      · intro h
        obtain ⟨y, e, hy⟩ := two_ops h
        rw [hx] at e
        cases e
        rw [ho] at hy
        exact absurd hy (by decide)
      · exact fun h => absurd ho h.1
    · rw [tal_at hx ho, two_split, Bool.or_eq_true]
      unfold sngS
      by_cases h4 : twoS q.nodes q.wh.toNat [4] 6 18 = true
      · rw [if_pos h4]; simp [h4, ho]
      · by_cases h10 : twoS q.nodes q.wh.toNat [10] 6 18 = true
        · rw [if_neg h4, if_pos h10]; simp [h10, ho]
        · rw [if_neg h4, if_neg h10]
          constructor
          · rintro (h | h)
            · exact absurd h h4
            · exact absurd h h10
          · rintro ⟨_, h⟩
            split at h <;> simp at h
  by_cases h : twoS q.nodes q.wh.toNat [4, 10] 6 18 = true
  · rw [if_pos h, if_pos (h2.1 h)]
  · rw [if_neg h, if_neg (fun e => h (h2.2 e))]
    by_cases hd : dlyS (cndS q) = true
    · rw [if_pos hd, if_pos ((dly_tal q).1 hd)]
    · rw [if_neg hd, if_neg (fun e => hd ((dly_tal q).2 e))]
end Go.Proofs.YtcelllihidkphaaDoor
