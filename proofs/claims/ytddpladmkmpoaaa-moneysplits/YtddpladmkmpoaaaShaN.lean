/- Plain numbers: what each weight gets of a total. Nothing of the program but the shares' order. -/
import Derived.Test.YtddpladmkmpoaaaSplE
namespace Go.Proofs.Ytddpladmkmpoaaa
open Go.Sort
set_option linter.unusedVariables false
instance (x y : Sh) : Decidable (lts x y) := by unfold lts; exact inferInstance
theorem lts_asym {x y : Sh} (h : lts x y) : ¬ lts y x := by unfold lts at *; omega
/-- how many of a list are ahead of x -/
def ahd (l : List Sh) (x : Sh) : Nat := l.countP (fun z => decide (lts z x))
theorem ahd_cons (y : Sh) (r : List Sh) (x : Sh) : ahd (y :: r) x = ahd r x + if lts y x then 1 else 0 := by
  unfold ahd
  rw [List.countP_cons]
  simp
theorem ahd_none : ∀ (l : List Sh) (x : Sh), (∀ y ∈ l, lts x y) → ahd l x = 0
  | [], x, _ => rfl
  | y :: r, x, h => by
    rw [ahd_cons, ahd_none r x (fun z hz => h z (List.mem_cons_of_mem _ hz)), if_neg (lts_asym (h y (List.mem_cons_self ..)))]
theorem ahd_at : ∀ (l : List Sh), l.Pairwise lts → ∀ j (hj : j < l.length), ahd l l[j] = j
  | [], _, j, hj => by simp at hj
  | y :: r, h, j, hj => by
    rw [List.pairwise_cons] at h
    cases j with
    | zero =>
      show ahd (y :: r) y = 0
      rw [ahd_cons, ahd_none r y h.1, if_neg (lts_irr y)]
    | succ j =>
      have hj' : j < r.length := by simpa using hj
      show ahd (y :: r) r[j] = j + 1
      rw [ahd_cons, ahd_at r h.2 j hj', if_pos (h.1 _ (List.getElem_mem hj'))]
/-- the shares of all weights, as a list -/
def allS (T S : Nat) (zs : Nat → Int) (n : Nat) : List Sh := (List.range n).map (shf T S zs)
/-- how many shares are ahead of that of i -/
def cnt (T S : Nat) (zs : Nat → Int) (n i : Nat) : Nat := ahd (allS T S zs n) (shf T S zs i)
def left (T S : Nat) (zs : Nat → Int) (n : Nat) : Nat := T - cumQ T S zs n
/-- what i gets of T -/
def part (T S : Nat) (zs : Nat → Int) (n i : Nat) : Nat := qf T S zs i + if cnt T S zs n i < left T S zs n then 1 else 0
section
variable {T S n : Nat} {zs : Nat → Int} {c : Array Sh}
theorem mk_list (f : Nat → Sh) : ((mkA n n f).extract 0 n).toList = (List.range n).map f := by
  apply List.ext_getElem
  · simp [mkA]
  · intro i h1 h2
    have hi : i < n := by simpa using h2
    have g := mkA_full f hi
    rw [getElem!_pos _ i (by rw [mkA_size]; exact hi)] at g
    simp only [Array.getElem_toList, Array.getElem_extract, List.getElem_map, List.getElem_range, Nat.zero_add]
    exact g
theorem Ord.lperm (h : Ord T S zs n c) : (c.extract 0 n).toList.Perm (allS T S zs n) := by
  have := h.perm.2.2
  rw [mk_list] at this
  exact this
theorem Ord.llen (h : Ord T S zs n c) : (c.extract 0 n).toList.length = n := by simp [h.size]
theorem Ord.lget (h : Ord T S zs n c) {j : Nat} (hj : j < n) : (c.extract 0 n).toList[j]'(by rw [h.llen]; exact hj) = c[j]! := by
  rw [getElem!_pos c j (by rw [h.size]; exact hj)]
  simp
theorem Ord.lsrt (h : Ord T S zs n c) : (c.extract 0 n).toList.Pairwise lts := by
  rw [List.pairwise_iff_getElem]
  intro i j hi hj hij
  have hj' : j < n := by rw [h.llen] at hj; exact hj
  rw [h.lget (show i < n by omega), h.lget hj']
  exact h.srt i j (Nat.zero_le _) hij hj'
/-- the place in the order is the number of those ahead -/
theorem Ord.cnt (h : Ord T S zs n c) {i j : Nat} (hj : j < n) (e : c[j]! = shf T S zs i) : cnt T S zs n i = j := by
  have h1 := ahd_at _ h.lsrt j (by rw [h.llen]; exact hj)
  rw [h.lget hj, e] at h1
  unfold Go.Proofs.Ytddpladmkmpoaaa.cnt
  rw [← h1]
  unfold ahd
  exact (h.lperm.countP_eq _).symm
/-- the parts' cells, place by place -/
theorem Lay.at {neg : Bool} {pb : Nat} {g : Nat → Int} {wr : Go.World} (L : Lay T S zs n neg c pb n g wr) (h : Ord T S zs n c) {i : Nat} (hi : i < n) : g i = if neg then -(part T S zs n i : Int) else (part T S zs n i : Int) := by
  obtain ⟨j, hj, e⟩ := h.sur hi
  have hc := h.cnt hj e
  have hd := L.done j hj
  rw [e] at hd
  have ep : ((shf T S zs i).p).toNat = i := by show ((i : Int)).toNat = i; omega
  rw [ep] at hd
  rw [hd]
  unfold gets part left
  rw [hc, e]
  have eq : (shf T S zs i).q = (qf T S zs i : Int) := rfl
  rw [eq]
  cases neg <;> by_cases hl : j < T - cumQ T S zs n <;> simp [hl]
end
end Go.Proofs.Ytddpladmkmpoaaa
/- Plain numbers: the parts' sum, their bounds, their order, opposites and multiples. -/
namespace Go.Proofs.Ytddpladmkmpoaaa
open Go.Sort
set_option linter.unusedVariables false
def sumR (T S : Nat) (zs : Nat → Int) : Nat → Nat
  | 0 => 0
  | k + 1 => sumR T S zs k + rf T S zs k
theorem cum_rest (T S : Nat) (zs : Nat → Int) : ∀ k, T * sumN zs k = cumQ T S zs k * S + sumR T S zs k
  | 0 => by simp [sumN, cumQ, sumR]
  | k + 1 => by
    have ih := cum_rest T S zs k
    have h := Nat.div_add_mod (T * (zs k).toNat) S
    simp only [sumN, cumQ, sumR, Nat.mul_add, Nat.add_mul]
    unfold qf rf
    rw [Nat.mul_comm S] at h
    omega
section
variable {T S n : Nat} {zs : Nat → Int} {c : Array Sh}
theorem left_rest (hS : sumN zs n = S) : left T S zs n * S = sumR T S zs n := by
  have h := cum_rest T S zs n
  rw [hS] at h
  unfold left
  rw [Nat.sub_mul]
  omega
theorem sumR_le (S0 : 0 < S) : ∀ k, sumR T S zs k ≤ ((List.range k).countP (fun i => decide (0 < rf T S zs i))) * S
  | 0 => by simp [sumR]
  | k + 1 => by
    have ih := sumR_le S0 k
    have hr : rf T S zs k < S := Nat.mod_lt _ S0
    rw [List.range_succ, List.countP_append, Nat.add_mul]
    simp only [sumR, List.countP_singleton]
    by_cases h : 0 < rf T S zs k
    · simp only [h, decide_true, if_true, Nat.one_mul]
      omega
    · have h' : rf T S zs k = 0 := by omega
      rw [h']
      simp
      exact ih
theorem left_le (hS : sumN zs n = S) (S0 : 0 < S) : left T S zs n ≤ n := by
  have h1 := left_rest (T := T) hS
  have h2 := sumR_le (T := T) (zs := zs) S0 n
  have h3 : (List.range n).countP (fun i => decide (0 < rf T S zs i)) ≤ n := by
    have := List.countP_le_length (p := fun i => decide (0 < rf T S zs i)) (l := List.range n)
    simpa using this
  have h4 : left T S zs n * S ≤ n * S := by rw [h1]; exact Nat.le_trans h2 (Nat.mul_le_mul_right _ h3)
  exact Nat.le_of_mul_le_mul_right h4 S0
/-- only what has a rest is rounded up -/
theorem up_rest (hS : sumN zs n = S) (S0 : 0 < S) {i : Nat} (h : cnt T S zs n i < left T S zs n) : 0 < rf T S zs i := by
  rcases Nat.eq_zero_or_pos (rf T S zs i) with h0 | h0
  · exfalso
    have h1 : (List.range n).countP (fun i => decide (0 < rf T S zs i)) ≤ cnt T S zs n i := by
      unfold cnt ahd allS
      rw [List.countP_map]
      apply List.countP_mono_left
      intro j _ hj
      have hj' : 0 < rf T S zs j := by simpa using hj
      show decide (lts (shf T S zs j) (shf T S zs i)) = true
      refine decide_eq_true (.inl ?_)
      show rf T S zs i < rf T S zs j
      omega
    have h2 := sumR_le (T := T) (zs := zs) S0 n
    rw [← left_rest (T := T) hS] at h2
    have h3 := Nat.le_of_mul_le_mul_right h2 S0
    omega
  · exact h0
theorem count_first {α : Type} : ∀ (l : List α) (L : Nat) (p : α → Bool), (∀ j (hj : j < l.length), p l[j] = decide (j < L)) → l.countP p = min L l.length
  | [], L, p, _ => by simp
  | y :: r, L, p, h => by
    have h0 : p y = decide (0 < L) := h 0 (by simp)
    have ih := count_first r (L - 1) p (fun j hj => by
      have := h (j + 1) (by simpa using hj)
      show p r[j] = _
      rw [show p r[j] = decide (j + 1 < L) from this]
      have e : j + 1 < L ↔ j < L - 1 := by omega
      simp only [e])
    rw [List.countP_cons, ih, h0, List.length_cons]
    by_cases hL : 0 < L
    · simp only [hL, decide_true, if_true]
      omega
    · have : L = 0 := by omega
      subst this
      simp
theorem up_count (h : Ord T S zs n c) (hS : sumN zs n = S) (S0 : 0 < S) : (List.range n).countP (fun i => decide (cnt T S zs n i < left T S zs n)) = left T S zs n := by
  have e1 : (List.range n).countP (fun i => decide (cnt T S zs n i < left T S zs n)) = (allS T S zs n).countP (fun z => decide (ahd (allS T S zs n) z < left T S zs n)) := by
    unfold allS
    rw [List.countP_map]
    rfl
  have e2 : ∀ z, ahd (allS T S zs n) z = ahd (c.extract 0 n).toList z := fun z => (h.lperm.countP_eq _).symm
  rw [e1, ← h.lperm.countP_eq]
  rw [count_first _ (left T S zs n) _ (fun j hj => by simp only [e2, ahd_at _ h.lsrt j hj]), h.llen]
  have := left_le (T := T) hS S0
  omega
def sumP (T S : Nat) (zs : Nat → Int) (n : Nat) : Nat → Nat
  | 0 => 0
  | k + 1 => sumP T S zs n k + part T S zs n k
theorem sumP_is (T S : Nat) (zs : Nat → Int) (n : Nat) : ∀ k, sumP T S zs n k = cumQ T S zs k + (List.range k).countP (fun i => decide (cnt T S zs n i < left T S zs n))
  | 0 => by simp [sumP, cumQ]
  | k + 1 => by
    rw [List.range_succ, List.countP_append, List.countP_singleton]
    simp only [sumP, cumQ, sumP_is T S zs n k]
    unfold part
    simp only [decide_eq_true_eq]
    omega
theorem sumP_T (h : Ord T S zs n c) (hS : sumN zs n = S) (S0 : 0 < S) : sumP T S zs n n = T := by
  rw [sumP_is, up_count h hS S0]
  have := cumQ_T (T := T) (k := n) hS S0 (Nat.le_refl _)
  unfold left
  omega
theorem sumZ_part (neg : Bool) (g : Nat → Int) (hg : ∀ i, i < n → g i = if neg then -(part T S zs n i : Int) else (part T S zs n i : Int)) : ∀ k, k ≤ n → sumZ g k = if neg then -(sumP T S zs n k : Int) else (sumP T S zs n k : Int)
  | 0, _ => by cases neg <;> rfl
  | k + 1, hk => by
    have ih := sumZ_part neg g hg k (by omega)
    simp only [sumZ, sumP, ih, hg k (by omega)]
    cases neg <;> simp <;> omega
theorem part_le (h : Ord T S zs n c) (hS : sumN zs n = S) (S0 : 0 < S) {i : Nat} (hi : i < n) : part T S zs n i ≤ T := by
  have h1 : ∀ m, i < m → part T S zs n i ≤ sumP T S zs n m := by
    intro m
    induction m with
    | zero => intro h; omega
    | succ m ih =>
      intro h
      simp only [sumP]
      by_cases e : i = m
      · subst e; omega
      · have := ih (by omega)
        omega
  have := h1 n hi
  rw [sumP_T h hS S0] at this
  exact this
/-- rounded down or up -/
theorem part_two (hS : sumN zs n = S) (S0 : 0 < S) (i : Nat) : part T S zs n i = qf T S zs i ∨ part T S zs n i = qf T S zs i + 1 ∧ 0 < rf T S zs i := by
  unfold part
  by_cases h : cnt T S zs n i < left T S zs n
  · exact .inr ⟨by rw [if_pos h], up_rest hS S0 h⟩
  · exact .inl (by rw [if_neg h, Nat.add_zero])
theorem part_zero (hS : sumN zs n = S) (S0 : 0 < S) {i : Nat} (hz : zs i = 0) : part T S zs n i = 0 := by
  have hr : rf T S zs i = 0 := by unfold rf; rw [hz]; simp
  have hq : qf T S zs i = 0 := by unfold qf; rw [hz]; simp
  rcases part_two (T := T) hS S0 i with h | h
  · omega
  · omega
theorem ahd_lt {l : List Sh} {x y : Sh} (h : lts x y) : ahd l x ≤ ahd l y := by
  unfold ahd
  apply List.countP_mono_left
  intro z _ hz
  have hz' : lts z x := by simpa using hz
  exact decide_eq_true (lts_trans hz' h)
/-- the shares' order decides -/
theorem part_mono {i j : Nat} (hq : qf T S zs j = qf T S zs i) (h : lts (shf T S zs i) (shf T S zs j)) : part T S zs n j ≤ part T S zs n i := by
  have := ahd_lt (l := allS T S zs n) h
  have h2 : cnt T S zs n i ≤ cnt T S zs n j := this
  unfold part
  rw [hq]
  by_cases a : cnt T S zs n j < left T S zs n
  · rw [if_pos a, if_pos (by omega)]
    exact Nat.le_refl _
  · rw [if_neg a]
    omega
/-- a greater weight never gets less -/
theorem part_more {i j : Nat} (S0 : 0 < S) (h : zs j < zs i) (h0 : 0 ≤ zs j) : part T S zs n j ≤ part T S zs n i := by
  have hz : (zs j).toNat < (zs i).toNat := by omega
  have hm : T * (zs j).toNat ≤ T * (zs i).toNat := Nat.mul_le_mul_left _ (by omega)
  have hq : qf T S zs j ≤ qf T S zs i := Nat.div_le_div_right hm
  by_cases e : qf T S zs j = qf T S zs i
  · rcases Nat.eq_zero_or_pos T with hT | hT
    · subst hT
      have a : ∀ k, part 0 S zs n k = 0 + if cnt 0 S zs n k < left 0 S zs n then 1 else 0 := fun k => by unfold part qf; simp
      have l0 : left 0 S zs n = 0 := by unfold left; omega
      rw [a, a, l0]
      simp
    · refine part_mono e (.inl ?_)
      show rf T S zs j < rf T S zs i
      have h1 := Nat.div_add_mod (T * (zs j).toNat) S
      have h2 := Nat.div_add_mod (T * (zs i).toNat) S
      have h3 : T * (zs j).toNat < T * (zs i).toNat := Nat.mul_lt_mul_of_pos_left hz hT
      have e' : T * (zs j).toNat / S = T * (zs i).toNat / S := e
      rw [e'] at h1
      unfold rf
      omega
  · have : part T S zs n j ≤ qf T S zs j + 1 := by unfold part; split <;> omega
    have : qf T S zs i ≤ part T S zs n i := by unfold part; omega
    omega
/-- of equal ones the earlier one never gets less -/
theorem part_same {i j : Nat} (hij : j < i) (h : zs i = zs j) : part T S zs n i ≤ part T S zs n j := by
  have hq : qf T S zs i = qf T S zs j := by unfold qf; rw [h]
  have hr : rf T S zs i = rf T S zs j := by unfold rf; rw [h]
  refine part_mono hq (.inr ⟨?_, ?_⟩)
  · show rf T S zs j = rf T S zs i
    exact hr.symm
  · show (j : Int) < (i : Int)
    omega
end
end Go.Proofs.Ytddpladmkmpoaaa
/- Plain numbers: whom a choosing, round by round, of the greatest rest that is left gives one more. Nothing of the program but the shares' order. -/
namespace Go.Proofs.Ytddpladmkmpoaaa
set_option linter.unusedVariables false
theorem ahd_less {x y : Sh} (h : lts x y) : ∀ (l : List Sh), x ∈ l → ahd l x < ahd l y
  | [], hx => by cases hx
  | z :: r, hx => by
    rw [ahd_cons, ahd_cons]
    rcases List.mem_cons.1 hx with e | e
    · subst e
      have := ahd_lt (l := r) h
      rw [if_neg (lts_irr x), if_pos h]
      omega
    · have := ahd_less h r e
      by_cases hz : lts z x
      · rw [if_pos hz, if_pos (lts_trans hz h)]; omega
      · rw [if_neg hz]; omega
theorem count_more (gv : Nat → Bool) (b : Nat) (hg : gv b = false) : ∀ n, (List.range n).countP (fun i => if i = b then true else gv i) = (List.range n).countP gv + if b < n then 1 else 0
  | 0 => by simp
  | n + 1 => by
    rw [List.range_succ, List.countP_append, List.countP_append, count_more gv b hg n]
    by_cases h : n = b
    · subst h
      simp [hg]
    · have e : (if b < n + 1 then 1 else 0) = (if b < n then 1 else 0) := by
        by_cases h' : b < n
        · rw [if_pos h', if_pos (by omega)]
        · rw [if_neg h', if_neg (by omega)]
      rw [e]
      simp [h]
      omega
section
variable {T S n m : Nat} {zs : Nat → Int} {gv : Nat → Bool}
theorem lts_two {i j : Nat} (h : i ≠ j) : lts (shf T S zs i) (shf T S zs j) ∨ lts (shf T S zs j) (shf T S zs i) := by
  unfold lts shf
  simp only
  omega
theorem cnt_is (T S : Nat) (zs : Nat → Int) (n b : Nat) : cnt T S zs n b = (List.range n).countP (fun i => decide (lts (shf T S zs i) (shf T S zs b))) := by
  unfold cnt ahd allS
  rw [List.countP_map]
  rfl
theorem cnt_less {i b : Nat} (hb : b < n) (h : lts (shf T S zs b) (shf T S zs i)) : cnt T S zs n b < cnt T S zs n i :=
  ahd_less h _ (List.mem_map.2 ⟨b, List.mem_range.2 hb, rfl⟩)
/-- after m rounds: those with fewer than m ahead are given one, m in all -/
structure Giv (T S : Nat) (zs : Nat → Int) (n m : Nat) (gv : Nat → Bool) : Prop where
  is : ∀ i, i < n → (gv i = true ↔ cnt T S zs n i < m)
  num : (List.range n).countP gv = m
theorem Giv.zero (T S : Nat) (zs : Nat → Int) (n : Nat) : Giv T S zs n 0 (fun _ => false) := ⟨fun i _ => by simp, by simp⟩
theorem Giv.step (h : Giv T S zs n m gv) {b : Nat} (hb : b < n) (hg : gv b = false) (hm : ∀ i, i < n → gv i = false → i ≠ b → lts (shf T S zs b) (shf T S zs i)) : Giv T S zs n (m + 1) (fun i => if i = b then true else gv i) := by
  have hmb : ¬ cnt T S zs n b < m := fun h' => by have := (h.is b hb).2 h'; rw [hg] at this; cases this
  have hc : cnt T S zs n b = m := by
    rw [cnt_is, ← h.num]
    apply List.countP_congr
    intro i hi
    have hi' : i < n := List.mem_range.1 hi
    cases hgi : gv i with
    | true =>
      have h1 := (h.is i hi').1 hgi
      have hne : i ≠ b := fun e => by rw [e, hg] at hgi; cases hgi
      rcases lts_two (T := T) (S := S) (zs := zs) hne with h2 | h2
      · simp [h2]
      · have := cnt_less hb h2
        omega
    | false =>
      by_cases e : i = b
      · subst e
        simp [lts_irr]
      · have := lts_asym (hm i hi' hgi e)
        simp [this]
  refine ⟨fun i hi => ?_, ?_⟩
  · by_cases e : i = b
    · subst e
      simp
      omega
    · simp only [if_neg e]
      cases hgi : gv i with
      | true =>
        have := (h.is i hi).1 hgi
        simp
        omega
      | false =>
        have := cnt_less hb (hm i hi hgi e)
        simp
        omega
  · rw [count_more gv b hg, h.num, if_pos hb]
/-- the best so far, among the first i -/
def Best (T S : Nat) (zs : Nat → Int) (gv : Nat → Bool) (i : Nat) : Option Nat → Prop
  | none => ∀ j, j < i → gv j = true
  | some b => b < i ∧ gv b = false ∧ ∀ j, j < i → gv j = false → j ≠ b → lts (shf T S zs b) (shf T S zs j)
theorem Best.zero (T S : Nat) (zs : Nat → Int) (gv : Nat → Bool) : Best T S zs gv 0 none := fun j hj => by omega
theorem Best.given {i : Nat} {o : Option Nat} (h : Best T S zs gv i o) (hg : gv i = true) : Best T S zs gv (i + 1) o := by
  cases o with
  | none =>
    intro j hj
    by_cases e : j = i
    · rw [e]; exact hg
    · exact h j (by omega)
  | some b =>
    refine ⟨by have := h.1; omega, h.2.1, fun j hj hgj hne => ?_⟩
    by_cases e : j = i
    · rw [e, hg] at hgj; cases hgj
    · exact h.2.2 j (by omega) hgj hne
theorem Best.first {i : Nat} (h : Best T S zs gv i none) (hg : gv i = false) : Best T S zs gv (i + 1) (some i) :=
  ⟨by omega, hg, fun j hj hgj hne => by have := h j (by omega); rw [hgj] at this; cases this⟩
theorem Best.keep {i b : Nat} (h : Best T S zs gv i (some b)) (hr : ¬ rf T S zs b < rf T S zs i) : Best T S zs gv (i + 1) (some b) := by
  refine ⟨by have := h.1; omega, h.2.1, fun j hj hgj hne => ?_⟩
  by_cases e : j = i
  · subst e
    have := h.1
    unfold lts shf
    simp only
    omega
  · exact h.2.2 j (by omega) hgj hne
theorem Best.take {i b : Nat} (h : Best T S zs gv i (some b)) (hg : gv i = false) (hr : rf T S zs b < rf T S zs i) : Best T S zs gv (i + 1) (some i) := by
  have hib : lts (shf T S zs i) (shf T S zs b) := by unfold lts shf; simp only; omega
  refine ⟨by omega, hg, fun j hj hgj hne => ?_⟩
  by_cases e : j = b
  · rw [e]; exact hib
  · exact lts_trans hib (h.2.2 j (by omega) hgj e)
theorem Best.there (h : Giv T S zs n m gv) (hm : m < n) : ¬ Best T S zs gv n none := fun hb => by
  have : (List.range n).countP gv = n := by
    have e := List.countP_eq_length (l := List.range n) (p := gv) |>.2 (fun i hi => hb i (List.mem_range.1 hi))
    rw [e, List.length_range]
  have := h.num
  omega
end
end Go.Proofs.Ytddpladmkmpoaaa
