/- Rows of cells laid out as lines: no program in it. -/
namespace Go.Proofs.YtcafhmlpmbkhkaaGreatDoor
set_option linter.unusedVariables false
set_option linter.unusedSimpArgs false
/-- a text as its bytes -/
abbrev Tx := List UInt8
/-- blanks -/
def bl (n : Nat) : Tx := List.replicate n 32
theorem bl_len (n : Nat) : (bl n).length = n := List.length_replicate
theorem bl_add (m n : Nat) : bl m ++ bl n = bl (m + n) := List.replicate_append_replicate
theorem bl_zero : bl 0 = [] := rfl
theorem bl_succ (n : Nat) : bl n ++ [32] = bl (n + 1) := bl_add n 1
/-- a text without the blanks at its end -/
def strip (s : Tx) : Tx := (s.reverse.dropWhile (· == 32)).reverse
theorem strip_nil : strip [] = [] := rfl
theorem strip_snoc_bl (s : Tx) : strip (s ++ [32]) = strip s := by simp [strip]
theorem strip_snoc (s : Tx) (b : UInt8) (h : b ≠ 32) : strip (s ++ [b]) = s ++ [b] := by
  have : (b == 32) = false := beq_eq_false_iff_ne.2 h
  simp [strip, this]
theorem strip_bl (s : Tx) (n : Nat) : strip (s ++ bl n) = strip s := by
  induction n with
  | zero => simp [bl]
  | succ n ih => rw [← bl_succ, ← List.append_assoc, strip_snoc_bl, ih]
theorem snoc_ind {P : Tx → Prop} (h0 : P []) (h1 : ∀ s b, P s → P (s ++ [b])) (s : Tx) : P s := by
  have : ∀ t : Tx, P t.reverse := by
    intro t
    induction t with
    | nil => exact h0
    | cons b t ih => rw [List.reverse_cons]; exact h1 _ _ ih
  have h := this s.reverse
  rwa [List.reverse_reverse] at h
theorem strip_le (s : Tx) : (strip s).length ≤ s.length := by
  refine snoc_ind (P := fun s => (strip s).length ≤ s.length) (Nat.le_refl _) (fun s b ih => ?_) s
  by_cases hb : b = 32
  · subst hb
    rw [strip_snoc_bl, List.length_append]
    omega
  · rw [strip_snoc s b hb]
    exact Nat.le_refl _
theorem strip_back (s : Tx) : strip s ++ bl (s.length - (strip s).length) = s := by
  refine snoc_ind (P := fun s => strip s ++ bl (s.length - (strip s).length) = s) rfl (fun s b ih => ?_) s
  by_cases hb : b = 32
  · subst hb
    rw [strip_snoc_bl, List.length_append]
    have := strip_le s
    rw [show s.length + [(32 : UInt8)].length - (strip s).length = s.length - (strip s).length + 1 by simp; omega, ← bl_succ, ← List.append_assoc, ih]
  · rw [strip_snoc s b hb]
    simp [bl]
theorem strip_over (s t : Tx) (h : strip t ≠ []) : strip (s ++ t) = s ++ strip t := by
  have e := strip_back t
  rw [← e, ← List.append_assoc, strip_bl, strip_bl]
  generalize hu : strip t = u at *
  have h1 : strip u = u := by
    have h2 := strip_bl u (t.length - u.length)
    rw [e, hu] at h2
    exact h2.symm
  rcases List.eq_nil_or_concat u with h0 | ⟨v, b, rfl⟩
  · exact absurd h0 h
  · have hb : b ≠ 32 := by
      intro hb
      subst hb
      rw [List.concat_eq_append, strip_snoc_bl] at h1
      have := strip_le v
      rw [h1, List.length_append] at this
      simp at this
      omega
    rw [List.concat_eq_append, ← List.append_assoc, strip_snoc _ b hb, strip_snoc _ b hb, List.append_assoc]
theorem strip_none (s t : Tx) (h : strip t = []) : strip (s ++ t) = strip s := by
  have e := strip_back t
  rw [h, List.nil_append] at e
  rw [← e, strip_bl]
/-- is nothing but blanks in it? -/
theorem strip_end (s : Tx) (n : Nat) (hn : n ≤ s.length) (h : n = 0 ∨ s[n - 1]? ≠ some 32) (hb : ∀ k, n ≤ k → k < s.length → s[k]? = some 32) : strip s = s.take n := by
  have e : s = s.take n ++ bl (s.length - n) := by
    conv => lhs; rw [← List.take_append_drop n s]
    congr 1
    apply List.ext_getElem?
    intro k
    rw [List.getElem?_drop]
    by_cases hk : n + k < s.length
    · rw [hb (n + k) (by omega) hk, bl, List.getElem?_replicate, if_pos (by omega)]
    · rw [List.getElem?_eq_none (by omega), bl, List.getElem?_replicate, if_neg (by omega)]
  rw [e, strip_bl, ← e]
  rcases h with rfl | h
  · rfl
  · by_cases h0 : n = 0
    · subst h0; rfl
    · have hn1 : n - 1 < s.length := by omega
      have e2 : s.take n = s.take (n - 1) ++ [s[n - 1]] := by
        have := List.take_succ_eq_append_getElem (l := s) (i := n - 1) hn1
        rwa [show n - 1 + 1 = n by omega] at this
      rw [e2]
      refine strip_snoc _ _ ?_
      intro hx
      rw [List.getElem?_eq_getElem hn1, hx] at h
      exact h rfl

/-- a column's width -/
def wid (R : List (List Tx)) (c : Nat) : Nat := R.foldl (fun n r => max n (r.getD c []).length) 0
theorem wid_nil (c : Nat) : wid [] c = 0 := rfl
theorem wid_snoc (R : List (List Tx)) (r : List Tx) (c : Nat) : wid (R ++ [r]) c = max (wid R c) (r.getD c []).length := by simp [wid]
theorem wid_take (R : List (List Tx)) (k : Nat) (r : List Tx) (h : R[k]? = some r) (c : Nat) : wid (R.take (k + 1)) c = max (wid (R.take k) c) (r.getD c []).length := by
  have hk : k < R.length := by
    by_cases hk : k < R.length
    · exact hk
    · rw [List.getElem?_eq_none (by omega)] at h; cases h
  rw [List.take_succ_eq_append_getElem hk, wid_snoc]
  rw [List.getElem?_eq_getElem hk] at h
  rw [Option.some.inj h]
theorem wid_ge {R : List (List Tx)} {r : List Tx} (hr : r ∈ R) (c : Nat) : (r.getD c []).length ≤ wid R c := by
  have go : ∀ (R : List (List Tx)) (n : Nat), n ≤ R.foldl (fun n r => max n (r.getD c []).length) n ∧ ∀ r ∈ R, (r.getD c []).length ≤ R.foldl (fun n r => max n (r.getD c []).length) n := by
    intro R
    induction R with
    | nil => intro n; exact ⟨Nat.le_refl _, by simp⟩
    | cons a R ih =>
      intro n
      obtain ⟨h1, h2⟩ := ih (max n (a.getD c []).length)
      rw [List.foldl_cons]
      refine ⟨by omega, fun r hr => ?_⟩
      rcases List.mem_cons.1 hr with rfl | hr
      · omega
      · exact h2 r hr
  exact (go R 0).2 r hr
theorem wid_le {R : List (List Tx)} {M c : Nat} (h : ∀ r ∈ R, (r.getD c []).length ≤ M) : wid R c ≤ M := by
  have go : ∀ (R : List (List Tx)) (n : Nat), n ≤ M → (∀ r ∈ R, (r.getD c []).length ≤ M) → R.foldl (fun n r => max n (r.getD c []).length) n ≤ M := by
    intro R
    induction R with
    | nil => intro n hn _; exact hn
    | cons a R ih =>
      intro n hn hR
      rw [List.foldl_cons]
      exact ih _ (by have := hR a (by simp); omega) (fun r hr => hR r (by simp [hr]))
  exact go R 0 (Nat.zero_le _) h
/-- a cell in its column, with the gap ahead of it -/
def cellT (right : Nat → Bool) (W : Nat → Nat) (c : Nat) (x : Tx) : Tx :=
  (if c = 0 then [] else bl 2) ++ (if right c then bl (W c - x.length) ++ x else x ++ bl (W c - x.length))
theorem cellT_len (right : Nat → Bool) (W : Nat → Nat) (c : Nat) (x : Tx) (h : x.length ≤ W c) : (cellT right W c x).length = (if c = 0 then 0 else 2) + W c := by
  unfold cellT
  rw [List.length_append]
  generalize right c = q
  by_cases hc : c = 0
  · rw [if_pos hc, if_pos hc]; cases q <;> simp [bl_len] <;> omega
  · rw [if_neg hc, if_neg hc]; cases q <;> simp [bl_len] <;> omega
/-- the first k cells of a row, one behind the other -/
def joinT (right : Nat → Bool) (W : Nat → Nat) (r : List Tx) : Nat → Tx
  | 0 => []
  | k + 1 => joinT right W r k ++ cellT right W k (r.getD k [])
theorem joinT_len (right : Nat → Bool) (W : Nat → Nat) (r : List Tx) (M : Nat) (h : ∀ c, (r.getD c []).length ≤ W c) (hM : ∀ c, W c ≤ M) (k : Nat) : (joinT right W r k).length ≤ k * (M + 2) := by
  induction k with
  | zero => simp [joinT]
  | succ k ih =>
    rw [joinT, List.length_append, cellT_len _ _ _ _ (h k), Nat.succ_mul]
    have := hM k
    split <;> omega
/-- a row's line, without its end -/
def lineT (right : Nat → Bool) (W : Nat → Nat) (r : List Tx) : Tx := strip (joinT right W r r.length)
/-- what is owed behind the first k cells -/
def owedT (right : Nat → Bool) (W : Nat → Nat) (r : List Tx) (k : Nat) : Nat := (joinT right W r k).length - (strip (joinT right W r k)).length
theorem owed_back (right : Nat → Bool) (W : Nat → Nat) (r : List Tx) (k : Nat) : strip (joinT right W r k) ++ bl (owedT right W r k) = joinT right W r k := strip_back _
/-- a cell with something to be seen: it stands behind what is owed -/
theorem step_seen (right : Nat → Bool) (W : Nat → Nat) (r : List Tx) (k : Nat) (x : Tx) (hx : r.getD k [] = x) (hw : x.length ≤ W k) (hs : strip x ≠ []) :
    strip (joinT right W r (k + 1)) = strip (joinT right W r k) ++ bl (owedT right W r k + (if k = 0 then 0 else 2) + (if right k then W k - x.length else 0)) ++ strip x ∧
    owedT right W r (k + 1) = x.length - (strip x).length + (if right k then 0 else W k - x.length) := by
  have hle := strip_le x
  have e1 : strip (joinT right W r (k + 1)) = strip (joinT right W r k) ++ bl (owedT right W r k + (if k = 0 then 0 else 2) + (if right k then W k - x.length else 0)) ++ strip x := by
    rw [joinT, hx]
    have hc : cellT right W k x = bl ((if k = 0 then 0 else 2) + (if right k then W k - x.length else 0)) ++ (x ++ bl (if right k then 0 else W k - x.length)) := by
      unfold cellT
      rw [← bl_add]
      generalize right k = q
      by_cases hk : k = 0
      · rw [if_pos hk, if_pos hk]; cases q <;> simp [bl, List.append_assoc]
      · rw [if_neg hk, if_neg hk]; cases q <;> simp [bl, List.append_assoc]
    rw [hc, ← owed_back right W r k, List.append_assoc, ← List.append_assoc (bl (owedT right W r k)), bl_add, ← List.append_assoc, ← List.append_assoc, strip_bl, List.append_assoc, ← List.append_assoc, strip_over _ _ hs]
    rw [owed_back, Nat.add_assoc]
  refine ⟨e1, ?_⟩
  have hlen : (joinT right W r (k + 1)).length = (joinT right W r k).length + ((if k = 0 then 0 else 2) + W k) := by rw [joinT, List.length_append, hx, cellT_len _ _ _ _ hw]
  have h0 := congrArg List.length (owed_back right W r k)
  rw [List.length_append, bl_len] at h0
  unfold owedT
  rw [hlen, e1]
  simp only [List.length_append, bl_len]
  by_cases hr : right k
  · rw [if_pos hr, if_pos hr]; omega
  · rw [if_neg hr, if_neg hr]; omega
/-- a cell of blanks alone: more is owed -/
theorem step_none (right : Nat → Bool) (W : Nat → Nat) (r : List Tx) (k : Nat) (x : Tx) (hx : r.getD k [] = x) (hw : x.length ≤ W k) (hs : strip x = []) :
    strip (joinT right W r (k + 1)) = strip (joinT right W r k) ∧ owedT right W r (k + 1) = owedT right W r k + (if k = 0 then 0 else 2) + W k := by
  have e1 : strip (joinT right W r (k + 1)) = strip (joinT right W r k) := by
    rw [joinT, hx]
    refine strip_none _ _ ?_
    unfold cellT
    have hb : x = bl x.length := by
      have := strip_back x
      rw [hs, List.nil_append] at this
      simpa using this.symm
    have : (if k = 0 then [] else bl 2) ++ (if right k then bl (W k - x.length) ++ x else x ++ bl (W k - x.length)) = bl ((if k = 0 then 0 else 2) + (W k - x.length + x.length)) := by
      conv => lhs; rw [hb]
      rw [bl_len, ← bl_add]
      generalize right k = q
      by_cases hk : k = 0
      · rw [if_pos hk, if_pos hk]; cases q <;> simp [bl_add, bl_zero, Nat.add_comm]
      · rw [if_neg hk, if_neg hk]; cases q <;> simp [bl_add, bl_zero, Nat.add_comm]
    rw [this]
    exact (strip_bl [] _).trans rfl
  refine ⟨e1, ?_⟩
  have h0 := congrArg List.length (owed_back right W r k)
  rw [List.length_append, bl_len] at h0
  unfold owedT
  rw [e1, joinT, List.length_append, hx, cellT_len _ _ _ _ hw]
  have := strip_le (joinT right W r k)
  omega
/-- rows' lines -/
def linesT (right : Nat → Bool) (W : Nat → Nat) : List (List Tx) → Tx
  | [] => []
  | r :: R => lineT right W r ++ [10] ++ linesT right W R
theorem linesT_app (right : Nat → Bool) (W : Nat → Nat) (A B : List (List Tx)) : linesT right W (A ++ B) = linesT right W A ++ linesT right W B := by
  induction A with
  | nil => rfl
  | cons a A ih => rw [List.cons_append, linesT, linesT, ih]; simp [List.append_assoc]
theorem linesT_take (right : Nat → Bool) (W : Nat → Nat) (R : List (List Tx)) (k : Nat) (r : List Tx) (h : R[k]? = some r) : linesT right W (R.take (k + 1)) = linesT right W (R.take k) ++ lineT right W r ++ [10] := by
  have hk : k < R.length := by
    by_cases hk : k < R.length
    · exact hk
    · rw [List.getElem?_eq_none (by omega)] at h; cases h
  rw [List.take_succ_eq_append_getElem hk, linesT_app, linesT]
  rw [List.getElem?_eq_getElem hk] at h
  rw [Option.some.inj h]
  simp [linesT, List.append_assoc]
/-- rows of cells as a text -/
def gridT (right : Nat → Bool) (R : List (List Tx)) : Tx := linesT right (wid R) R
theorem line_len {right : Nat → Bool} {R : List (List Tx)} {r : List Tx} (hr : r ∈ R) {M N : Nat} (hM : ∀ c, wid R c ≤ M) (hN : r.length ≤ N) : (lineT right (wid R) r).length ≤ N * (M + 2) := by
  refine Nat.le_trans (strip_le _) (Nat.le_trans (joinT_len right (wid R) r M (fun c => wid_ge hr c) hM _) (Nat.mul_le_mul_right _ hN))
theorem lines_len {right : Nat → Bool} {R : List (List Tx)} {M N : Nat} (hM : ∀ c, wid R c ≤ M) (hN : ∀ r ∈ R, r.length ≤ N) : ∀ (A : List (List Tx)), (∀ r ∈ A, r ∈ R) → (linesT right (wid R) A).length ≤ A.length * (N * (M + 2) + 1)
  | [], _ => by simp [linesT]
  | r :: A, h => by
    have h1 := line_len (right := right) (h r (by simp)) hM (hN r (h r (by simp)))
    have h2 := lines_len (right := right) hM hN A (fun x hx => h x (by simp [hx]))
    have e : (r :: A).length * (N * (M + 2) + 1) = A.length * (N * (M + 2) + 1) + (N * (M + 2) + 1) := by rw [List.length_cons, Nat.succ_mul]
    rw [linesT, List.length_append, List.length_append, e, List.length_singleton]
    omega
end Go.Proofs.YtcafhmlpmbkhkaaGreatDoor
