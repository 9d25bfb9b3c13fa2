/- Layer 8, no program in it: what rows (a name, an amount) sum up to; names with those above them. -/
namespace Go.Proofs.YtenoaechonpjgaaDoor
set_option linter.unusedSectionVars false
/-- the sum of f over a list -/
def sm {β : Type} (f : β → Int) : List β → Int
  | [] => 0
  | a :: l => f a + sm f l
theorem sm_append {β : Type} (f : β → Int) (a b : List β) : sm f (a ++ b) = sm f a + sm f b := by
  induction a with
  | nil => simp [sm]
  | cons x a ih => simp only [List.cons_append, sm, ih]; omega
theorem sm_add {β : Type} (f g : β → Int) (a : List β) : sm (fun x => f x + g x) a = sm f a + sm g a := by
  induction a with
  | nil => simp [sm]
  | cons x a ih => simp only [sm, ih]; omega
theorem sm_sub {β : Type} (f g : β → Int) (a : List β) : sm (fun x => f x - g x) a = sm f a - sm g a := by
  induction a with
  | nil => simp [sm]
  | cons x a ih => simp only [sm, ih]; omega
theorem sm_zero {β : Type} {f : β → Int} {a : List β} (h : ∀ x ∈ a, f x = 0) : sm f a = 0 := by
  induction a with
  | nil => rfl
  | cons x a ih => simp only [sm, h x (by simp), ih fun y hy => h y (by simp [hy])]; omega
theorem sm_congr {β : Type} {f g : β → Int} {a : List β} (h : ∀ x ∈ a, f x = g x) : sm f a = sm g a := by
  induction a with
  | nil => rfl
  | cons x a ih => simp only [sm, h x (by simp), ih fun y hy => h y (by simp [hy])]
theorem sm_le {β : Type} {f g : β → Int} {a : List β} (h : ∀ x ∈ a, f x ≤ g x) : sm f a ≤ sm g a := by
  induction a with
  | nil => simp [sm]
  | cons x a ih =>
    have h1 := h x (by simp)
    have h2 := ih fun y hy => h y (by simp [hy])
    simp only [sm]; omega
theorem sm_perm {β : Type} (f : β → Int) {a b : List β} (h : a.Perm b) : sm f a = sm f b := by
  induction h with
  | nil => rfl
  | cons x _ ih => simp only [sm, ih]
  | swap x y l => simp only [sm]; omega
  | trans _ _ h1 h2 => exact h1.trans h2
theorem sm_map {β γ : Type} (f : β → Int) (g : γ → β) (a : List γ) : sm f (a.map g) = sm (fun x => f (g x)) a := by
  induction a with
  | nil => rfl
  | cons x a ih => simp only [List.map_cons, sm, ih]
theorem sm_filter {β : Type} (f : β → Int) (p : β → Bool) (a : List β) : sm f (a.filter p) = sm (fun x => if p x = true then f x else 0) a := by
  induction a with
  | nil => rfl
  | cons x a ih =>
    cases h : p x
    · rw [List.filter_cons_of_neg (by simp [h])]; simp only [sm, ih, h]; simp
    · rw [List.filter_cons_of_pos h]; simp only [sm, ih, h]; simp
theorem sm_swap {β γ : Type} (f : β → γ → Int) (a : List β) (b : List γ) : sm (fun x => sm (fun y => f x y) b) a = sm (fun y => sm (fun x => f x y) a) b := by
  induction a with
  | nil => simp only [sm]; exact (sm_zero fun _ _ => rfl).symm
  | cons x a ih => simp only [sm, ih, sm_add]
theorem sm_mul {β : Type} (c : Int) (f : β → Int) (a : List β) : sm (fun x => c * f x) a = c * sm f a := by
  induction a with
  | nil => simp [sm]
  | cons x a ih => simp only [sm, ih, Int.mul_add]
variable {α : Type} [DecidableEq α]
/-- one name: the sum over a list without doubles of what is 0 elsewhere -/
theorem sm_one {K : List α} (hK : K.Nodup) (n : α) (v : Int) : sm (fun x => if x = n then v else 0) K = if n ∈ K then v else 0 := by
  induction K with
  | nil => simp [sm]
  | cons x K ih =>
    rw [List.nodup_cons] at hK
    simp only [sm, ih hK.2, List.mem_cons]
    by_cases h : x = n
    · subst h; simp [hK.1]
    · have h' : ¬ n = x := fun e => h e.symm
      simp [h, h']
/-- two lists without doubles that hold the same of what counts -/
theorem sm_same {f : α → Int} {K M : List α} (hK : K.Nodup) (hM : M.Nodup) (h : ∀ x, f x ≠ 0 → (x ∈ K ↔ x ∈ M)) : sm f K = sm f M := by
  have key : ∀ A : List α, sm f A = sm f (A.filter fun x => decide (f x ≠ 0)) := fun A => by
    rw [sm_filter]
    refine sm_congr fun x _ => ?_
    by_cases e : f x = 0 <;> simp [e]
  rw [key K, key M]
  refine sm_perm f ((List.perm_ext_iff_of_nodup (hK.sublist List.filter_sublist) (hM.sublist List.filter_sublist)).2 fun x => ?_)
  simp only [List.mem_filter, decide_eq_true_eq]
  exact ⟨fun ⟨a, b⟩ => ⟨(h x b).1 a, b⟩, fun ⟨a, b⟩ => ⟨(h x b).2 a, b⟩⟩

/-- each once -/
def nub : List α → List α
  | [] => []
  | a :: l => if a ∈ nub l then nub l else a :: nub l
theorem mem_nub (x : α) : ∀ l : List α, x ∈ nub l ↔ x ∈ l
  | [] => by simp [nub]
  | a :: l => by
    have ih := mem_nub x l
    unfold nub
    split
    · rename_i h
      rw [List.mem_cons, ih]
      exact ⟨Or.inr, fun q => q.elim (fun e => by subst e; exact (mem_nub _ l).1 h) id⟩
    · rw [List.mem_cons, List.mem_cons, ih]
theorem nodup_nub : ∀ l : List α, (nub l).Nodup
  | [] => by simp [nub]
  | a :: l => by
    unfold nub
    split
    · exact nodup_nub l
    · rename_i h; exact List.nodup_cons.2 ⟨h, nodup_nub l⟩

/-- rows: a name and an amount -/
abbrev Rws (α : Type) := List (α × Int)
def own (L : Rws α) (n : α) : Int := sm (fun r => if r.1 = n then r.2 else 0) L
def tot (L : Rws α) : Int := sm (fun r => r.2) L
theorem own_append (L M : Rws α) (n : α) : own (L ++ M) n = own L n + own M n := sm_append _ _ _
theorem own_perm {L M : Rws α} (h : L.Perm M) (n : α) : own L n = own M n := sm_perm _ h
def opp (L : Rws α) : Rws α := L.map fun r => (r.1, -r.2)
theorem own_opp (L : Rws α) (n : α) : own (opp L) n = - own L n := by
  unfold own opp
  rw [sm_map]
  have : ∀ r : α × Int, (if r.1 = n then -r.2 else 0) = (-1) * (if r.1 = n then r.2 else 0) := fun r => by split <;> omega
  simp only [this, sm_mul]; omega
theorem own_back (L R : Rws α) (n : α) : own (L ++ R ++ opp R) n = own L n := by
  rw [own_append, own_append, own_opp]; omega
theorem own_none {L : Rws α} {n : α} (h : ∀ r ∈ L, r.1 ≠ n) : own L n = 0 :=
  sm_zero fun r hr => by simp [h r hr]
/-- whatever is summed over the rows by name is summed over the owns -/
theorem by_name (L : Rws α) {K : List α} (hK : K.Nodup) (hc : ∀ r ∈ L, r.1 ∈ K) (p : α → Bool) :
    sm (fun r => if p r.1 = true then r.2 else 0) L = sm (fun n => if p n = true then own L n else 0) K := by
  have e1 : sm (fun n => if p n = true then own L n else 0) K = sm (fun n => sm (fun r => if r.1 = n then (if p r.1 = true then r.2 else 0) else 0) L) K := by
    refine sm_congr fun n _ => ?_
    unfold own
    by_cases hp : p n = true
    · rw [if_pos hp]
      refine sm_congr fun r _ => ?_
      by_cases e : r.1 = n
      · subst e; simp [hp]
      · simp [e]
    · rw [if_neg hp]
      refine (sm_zero fun r _ => ?_).symm
      by_cases e : r.1 = n
      · subst e; simp [hp]
      · simp [e]
  rw [e1, sm_swap]
  refine sm_congr fun r hr => ?_
  have := sm_one hK r.1 (if p r.1 = true then r.2 else 0)
  rw [if_pos (hc r hr)] at this
  refine this.symm.trans (sm_congr fun n _ => ?_)
  by_cases e : n = r.1
  · subst e; simp
  · have e' : ¬ r.1 = n := fun h => e h.symm
    simp [e, e']
/-- the same over the names that count alone -/
theorem by_held (L : Rws α) {K : List α} (hK : K.Nodup) (hc : ∀ n, own L n ≠ 0 → n ∈ K) (p : α → Bool) :
    sm (fun r => if p r.1 = true then r.2 else 0) L = sm (fun n => if p n = true then own L n else 0) K := by
  have hM : (nub (L.map (·.1))).Nodup := nodup_nub _
  rw [by_name L hM (fun r hr => (mem_nub _ _).2 (List.mem_map_of_mem (f := (·.1)) hr)) p]
  refine sm_same hM hK fun n hn => ?_
  have h0 : own L n ≠ 0 := fun h => hn (by simp [h])
  refine ⟨fun _ => hc n h0, fun _ => ?_⟩
  rw [mem_nub, List.mem_map]
  refine Classical.byContradiction fun hno => h0 (own_none fun r hr e => hno ⟨r, hr, e⟩)

def pos (v : Int) : Int := if v > 0 then v else 0
def neg (v : Int) : Int := if v > 0 then 0 else -v
theorem pos_nonneg (v : Int) : 0 ≤ pos v := by unfold pos; split <;> omega
theorem neg_nonneg (v : Int) : 0 ≤ neg v := by unfold neg; split <;> omega
theorem pos_neg (v : Int) : pos v - neg v = v := by unfold pos neg; split <;> omega
/-- the two sides over a list of names that holds all that count -/
def deb (L : Rws α) (K : List α) : Int := sm (fun n => pos (own L n)) K
def cre (L : Rws α) (K : List α) : Int := sm (fun n => neg (own L n)) K
theorem deb_same {L M : Rws α} {K J : List α} (hK : K.Nodup) (hJ : J.Nodup) (hc : ∀ n, own L n ≠ 0 → n ∈ K) (hd : ∀ n, own M n ≠ 0 → n ∈ J) (h : ∀ n, own L n = own M n) : deb L K = deb M J := by
  unfold deb
  rw [sm_congr (g := fun n => pos (own M n)) fun n _ => by rw [h n]]
  refine sm_same hK hJ fun n hn => ?_
  have h0 : own M n ≠ 0 := fun e => hn (by simp [e, pos])
  exact ⟨fun _ => hd n h0, fun _ => hc n (by rw [h n]; exact h0)⟩
theorem cre_same {L M : Rws α} {K J : List α} (hK : K.Nodup) (hJ : J.Nodup) (hc : ∀ n, own L n ≠ 0 → n ∈ K) (hd : ∀ n, own M n ≠ 0 → n ∈ J) (h : ∀ n, own L n = own M n) : cre L K = cre M J := by
  unfold cre
  rw [sm_congr (g := fun n => neg (own M n)) fun n _ => by rw [h n]]
  refine sm_same hK hJ fun n hn => ?_
  have h0 : own M n ≠ 0 := fun e => hn (by simp [e, neg])
  exact ⟨fun _ => hd n h0, fun _ => hc n (by rw [h n]; exact h0)⟩
theorem sides_tot (L : Rws α) {K : List α} (hK : K.Nodup) (hc : ∀ n, own L n ≠ 0 → n ∈ K) : deb L K - cre L K = tot L := by
  unfold deb cre tot
  rw [← sm_sub]
  have h := by_held L hK hc (fun _ => true)
  simp only [if_true] at h
  rw [h]
  exact sm_congr fun n _ => pos_neg _

/-- names with those above them, the nearest first -/
structure Ups (up : α → List α) : Prop where
  step : ∀ x p t, up x = p :: t → t = up p
  once : ∀ x, (x :: up x).Nodup
def roll (up : α → List α) (L : Rws α) (n : α) : Int := sm (fun r => if n ∈ r.1 :: up r.1 then r.2 else 0) L
theorem roll_append (up : α → List α) (L M : Rws α) (n : α) : roll up (L ++ M) n = roll up L n + roll up M n := sm_append _ _ _
theorem roll_held (up : α → List α) (L : Rws α) {K : List α} (hK : K.Nodup) (hc : ∀ n, own L n ≠ 0 → n ∈ K) (n : α) :
    roll up L n = sm (fun x => if n ∈ x :: up x then own L x else 0) K := by
  have h := by_held L hK hc (fun x => decide (n ∈ x :: up x))
  simp only [decide_eq_true_eq] at h
  exact h
/-- rolls are told by the owns -/
theorem roll_own (up : α → List α) {L M : Rws α} (h : ∀ n, own L n = own M n) (n : α) : roll up L n = roll up M n := by
  have hM : (nub ((L ++ M).map (·.1))).Nodup := nodup_nub _
  have hc : ∀ n, own L n ≠ 0 → n ∈ nub ((L ++ M).map (·.1)) := fun n h0 => by
    rw [mem_nub, List.mem_map]
    refine Classical.byContradiction fun hno => h0 (own_none fun r hr e => hno ⟨r, by simp [hr], e⟩)
  rw [roll_held up L hM hc, roll_held up M hM (fun n h0 => hc n (by rw [h n]; exact h0))]
  exact sm_congr fun x _ => by rw [h x]
theorem roll_zero (up : α → List α) {L : Rws α} {n : α} (h : ∀ x, n ∈ x :: up x → own L x = 0) : roll up L n = 0 := by
  have hM : (nub (L.map (·.1))).Nodup := nodup_nub _
  have hc : ∀ n, own L n ≠ 0 → n ∈ nub (L.map (·.1)) := fun n h0 => by
    rw [mem_nub, List.mem_map]
    refine Classical.byContradiction fun hno => h0 (own_none fun r hr e => hno ⟨r, hr, e⟩)
  rw [roll_held up L hM hc]
  refine sm_zero fun x _ => ?_
  split
  · rename_i hx; exact h x hx
  · rfl
theorem roll_le (up : α → List α) (L : Rws α) {K : List α} (hK : K.Nodup) (hc : ∀ n, own L n ≠ 0 → n ∈ K) (n : α) : roll up L n ≤ deb L K := by
  rw [roll_held up L hK hc]
  refine sm_le fun x _ => ?_
  show (if n ∈ x :: up x then own L x else 0) ≤ pos (own L x)
  unfold pos
  split <;> split <;> omega
theorem roll_ge (up : α → List α) (L : Rws α) {K : List α} (hK : K.Nodup) (hc : ∀ n, own L n ≠ 0 → n ∈ K) (n : α) : -cre L K ≤ roll up L n := by
  rw [roll_held up L hK hc]
  have e : -cre L K = sm (fun x => -1 * neg (own L x)) K := by rw [sm_mul]; unfold cre; omega
  rw [e]
  refine sm_le fun x _ => ?_
  show -1 * neg (own L x) ≤ (if n ∈ x :: up x then own L x else 0)
  unfold neg
  split <;> split <;> omega
theorem up_ind {up : α → List α} (hu : Ups up) {P : α → Prop} (h0 : ∀ x, up x = [] → P x) (h1 : ∀ x p, up x = p :: up p → P p → P x) : ∀ x, P x := by
  have key : ∀ k x, (up x).length = k → P x := by
    intro k
    induction k with
    | zero => intro x h; exact h0 x (List.length_eq_zero_iff.1 h)
    | succ k ih =>
      intro x h
      match e : up x with
      | [] => simp [e] at h
      | p :: t =>
        obtain rfl := hu.step x p t e
        exact h1 x p e (ih p (by simpa [e] using h))
  exact fun x => key _ x rfl
/-- of a name and those above it, one lies right below n if n is above it -/
theorem one_below {up : α → List α} (hu : Ups up) (n : α) (a : Int) (x : α) : sm (fun m => if (up m).head? = some n then a else 0) (x :: up x) = if n ∈ up x then a else 0 := by
  refine up_ind hu (P := fun x => sm (fun m => if (up m).head? = some n then a else 0) (x :: up x) = if n ∈ up x then a else 0) (fun x e => ?_) (fun x p e ih => ?_) x
  · simp [e, sm]
  · rw [e, sm, ih, e]
    have ho := hu.once x
    rw [e, List.nodup_cons, List.nodup_cons] at ho
    simp only [List.head?_cons, Option.some.injEq, List.mem_cons]
    by_cases h : p = n
    · subst h; simp [ho.2.1]
    · have h' : ¬ n = p := fun q => h q.symm
      simp [h, h']
/-- of a name and those above it, one is a root -/
theorem one_root {up : α → List α} (hu : Ups up) (a : Int) (x : α) : sm (fun m => if up m = [] then a else 0) (x :: up x) = a := by
  refine up_ind hu (P := fun x => sm (fun m => if up m = [] then a else 0) (x :: up x) = a) (fun x e => ?_) (fun x p e ih => ?_) x
  · simp [e, sm]
  · rw [e, sm, ih, e]; simp
/-- a roll is the own balance and the rolls right below -/
theorem roll_tree {up : α → List α} (hu : Ups up) (L : Rws α) {K : List α} (hK : K.Nodup) (hc : ∀ x n, own L x ≠ 0 → n ∈ x :: up x → n ∈ K) (n : α) :
    roll up L n = own L n + sm (fun m => if (up m).head? = some n then roll up L m else 0) K := by
  have hc1 : ∀ x, own L x ≠ 0 → x ∈ K := fun x h => hc x x h (by simp)
  have e1 : sm (fun m => if (up m).head? = some n then roll up L m else 0) K = sm (fun x => if n ∈ up x then own L x else 0) K := by
    rw [sm_congr (g := fun m => sm (fun x => if (up m).head? = some n ∧ m ∈ x :: up x then own L x else 0) K) fun m _ => ?_]
    · rw [sm_swap]
      refine sm_congr fun x hx => ?_
      rw [← one_below hu n (own L x) x]
      by_cases h0 : own L x = 0
      · rw [h0]; simp only [ite_self]; rw [sm_zero fun _ _ => rfl, sm_zero fun _ _ => rfl]
      · rw [sm_congr (a := x :: up x) (g := fun m => if (up m).head? = some n ∧ m ∈ x :: up x then own L x else 0) fun m hm => by simp only [hm, and_true]]
        refine sm_same hK (hu.once x) fun m hm => ?_
        have hm' : m ∈ x :: up x := Classical.byContradiction fun q => hm (by rw [if_neg fun z => q z.2])
        exact ⟨fun _ => hm', fun _ => hc x m h0 hm'⟩
    · rw [roll_held up L hK hc1]
      by_cases h : (up m).head? = some n
      · simp only [h, if_true, true_and]
      · simp only [h, if_false, false_and]; exact (sm_zero fun _ _ => rfl).symm
  rw [e1, roll_held up L hK hc1]
  have e2 : own L n = sm (fun x => if x = n then own L x else 0) K := by
    rw [sm_congr (g := fun x => if x = n then own L n else 0) fun x _ => by by_cases e : x = n <;> simp [e], sm_one hK]
    by_cases h : n ∈ K
    · rw [if_pos h]
    · rw [if_neg h]; exact Classical.byContradiction fun q => h (hc1 n q)
  rw [e2, ← sm_add]
  refine sm_congr fun x _ => ?_
  have ho := hu.once x
  rw [List.nodup_cons] at ho
  by_cases e : x = n
  · subst e; simp [ho.1]
  · have e' : ¬ n = x := fun q => e q.symm
    simp [e, e']
/-- the roots' rolls are all -/
theorem roll_roots {up : α → List α} (hu : Ups up) (L : Rws α) {K : List α} (hK : K.Nodup) (hc : ∀ x n, own L x ≠ 0 → n ∈ x :: up x → n ∈ K) :
    sm (fun m => if up m = [] then roll up L m else 0) K = tot L := by
  have hc1 : ∀ x, own L x ≠ 0 → x ∈ K := fun x h => hc x x h (by simp)
  have h := by_held L hK hc1 (fun _ => true)
  simp only [if_true] at h
  unfold tot
  rw [h]
  rw [sm_congr (g := fun m => sm (fun x => if up m = [] ∧ m ∈ x :: up x then own L x else 0) K) fun m _ => ?_]
  · rw [sm_swap]
    refine sm_congr fun x hx => ?_
    by_cases h0 : own L x = 0
    · rw [h0]; simp only [ite_self]; exact sm_zero fun _ _ => rfl
    · refine Eq.trans ?_ (one_root hu (own L x) x)
      rw [sm_congr (a := x :: up x) (g := fun m => if up m = [] ∧ m ∈ x :: up x then own L x else 0) fun m hm => by simp only [hm, and_true]]
      refine sm_same hK (hu.once x) fun m hm => ?_
      have hm' : m ∈ x :: up x := Classical.byContradiction fun q => hm (by rw [if_neg fun z => q z.2])
      exact ⟨fun _ => hm', fun _ => hc x m h0 hm'⟩
  · rw [roll_held up L hK hc1]
    by_cases h : up m = []
    · simp only [h, if_true, true_and]
    · simp only [h, if_false, false_and]; exact (sm_zero fun _ _ => rfl).symm
end Go.Proofs.YtenoaechonpjgaaDoor
