/- Layer 8, no program in it: what rows (a name, an amount) sum up to; names with those above them. -/
namespace Go.Proofs.YtmgnlgobkkfjhaaGreatDoor
set_option linter.unusedSectionVars false
/-- the sum of f over a list -/
def sm {β : Type} (f : β → Int) : List β → Int
  | [] => 0
  | a :: l => f a + sm f l
theorem sm_append {β : Type} (f : β → Int) (a b : List β) : sm f (a ++ b) = sm f a + sm f b := by
  induction a with
  | nil => simp [sm]
  | cons x a ih => simp only [List.cons_append, sm, ih]; omega
theorem sm_add {β : Type} (f g : β → Int) (a : List β) : sm (fun x => f x + g x) a = sm f a + sm g a := by
  induction a with
  | nil => simp [sm]
  | cons x a ih => simp only [sm, ih]; omega
theorem sm_sub {β : Type} (f g : β → Int) (a : List β) : sm (fun x => f x - g x) a = sm f a - sm g a := by
  induction a with
  | nil => simp [sm]
  | cons x a ih => simp only [sm, ih]; omega
theorem sm_zero {β : Type} {f : β → Int} {a : List β} (h : ∀ x ∈ a, f x = 0) : sm f a = 0 := by
  induction a with
  | nil => rfl
  | cons x a ih => simp only [sm, h x (by simp), ih fun y hy => h y (by simp [hy])]; omega
theorem sm_congr {β : Type} {f g : β → Int} {a : List β} (h : ∀ x ∈ a, f x = g x) : sm f a = sm g a := by
  induction a with
  | nil => rfl
  | cons x a ih => simp only [sm, h x (by simp), ih fun y hy => h y (by simp [hy])]
theorem sm_le {β : Type} {f g : β → Int} {a : List β} (h : ∀ x ∈ a, f x ≤ g x) : sm f a ≤ sm g a := by
  induction a with
  | nil => simp [sm]
  | cons x a ih =>
    have h1 := h x (by simp)
    have h2 := ih fun y hy => h y (by simp [hy])
    simp only [sm]; omega
theorem sm_perm {β : Type} (f : β → Int) {a b : List β} (h : a.Perm b) : sm f a = sm f b := by
  induction h with
  | nil => rfl
  | cons x _ ih => simp only [sm, ih]
  | swap x y l => simp only [sm]; omega
  | trans _ _ h1 h2 => exact h1.trans h2
theorem sm_map {β γ : Type} (f : β → Int) (g : γ → β) (a : List γ) : sm f (a.map g) = sm (fun x => f (g x)) a := by
  induction a with
  | nil => rfl
  | cons x a ih => simp only [List.map_cons, sm, ih]
theorem sm_filter {β : Type} (f : β → Int) (p : β → Bool) (a : List β) : sm f (a.filter p) = sm (fun x => if p x = true then f x else 0) a := by
  induction a with
  | nil => rfl
  | cons x a ih =>
    cases h : p x
    · rw [List.filter_cons_of_neg (by simp [h])]; simp only [sm, ih, h]; simp
    · rw [List.filter_cons_of_pos h]; simp only [sm, ih, h]; simp
theorem sm_swap {β γ : Type} (f : β → γ → Int) (a : List β) (b : List γ) : sm (fun x => sm (fun y => f x y) b) a = sm (fun y => sm (fun x => f x y) a) b := by
  induction a with
  | nil => simp only [sm]; exact (sm_zero fun _ _ => rfl).symm
  | cons x a ih => simp only [sm, ih, sm_add]
theorem sm_mul {β : Type} (c : Int) (f : β → Int) (a : List β) : sm (fun x => c * f x) a = c * sm f a := by
  induction a with
  | nil => simp [sm]
  | cons x a ih => simp only [sm, ih, Int.mul_add]
variable {α : Type} [DecidableEq α]
/-- one name: the sum over a list without doubles of what is 0 elsewhere -/
theorem sm_one {K : List α} (hK : K.Nodup) (n : α) (v : Int) : sm (fun x => if x = n then v else 0) K = if n ∈ K then v else 0 := by
  induction K with
  | nil => simp [sm]
  | cons x K ih =>
    rw [List.nodup_cons] at hK
    simp only [sm, ih hK.2, List.mem_cons]
    by_cases h : x = n
    · subst h; simp [hK.1]
    · have h' : ¬ n = x := fun e => h e.symm
      simp [h, h']
/-- two lists without doubles that hold the same of what counts -/
theorem sm_same {f : α → Int} {K M : List α} (hK : K.Nodup) (hM : M.Nodup) (h : ∀ x, f x ≠ 0 → (x ∈ K ↔ x ∈ M)) : sm f K = sm f M := by
  have key : ∀ A : List α, sm f A = sm f (A.filter fun x => decide (f x ≠ 0)) := fun A => by
    rw [sm_filter]
    refine sm_congr fun x _ => ?_
    by_cases e : f x = 0 <;> simp [e]
  rw [key K, key M]
  refine sm_perm f ((List.perm_ext_iff_of_nodup (hK.sublist List.filter_sublist) (hM.sublist List.filter_sublist)).2 fun x => ?_)
  simp only [List.mem_filter, decide_eq_true_eq]
  exact ⟨fun ⟨a, b⟩ => ⟨(h x b).1 a, b⟩, fun ⟨a, b⟩ => ⟨(h x b).2 a, b⟩⟩

/-- each once -/
def nub : List α → List α
  | [] => []
  | a :: l => if a ∈ nub l then nub l else a :: nub l
theorem mem_nub (x : α) : ∀ l : List α, x ∈ nub l ↔ x ∈ l
  | [] => by simp [nub]
  | a :: l => by
    have ih := mem_nub x l
    unfold nub
    split
    · rename_i h
      rw [List.mem_cons, ih]
      exact ⟨Or.inr, fun q => q.elim (fun e => by subst e; exact (mem_nub _ l).1 h) id⟩
    · rw [List.mem_cons, List.mem_cons, ih]
theorem nodup_nub : ∀ l : List α, (nub l).Nodup
  | [] => by simp [nub]
  | a :: l => by
    unfold nub
    split
    · exact nodup_nub l
    · rename_i h; exact List.nodup_cons.2 ⟨h, nodup_nub l⟩

/-- rows: a name and an amount -/
abbrev Rws (α : Type) := List (α × Int)
def own (L : Rws α) (n : α) : Int := sm (fun r => if r.1 = n then r.2 else 0) L
def tot (L : Rws α) : Int := sm (fun r => r.2) L
theorem own_append (L M : Rws α) (n : α) : own (L ++ M) n = own L n + own M n := sm_append _ _ _
theorem own_perm {L M : Rws α} (h : L.Perm M) (n : α) : own L n = own M n := sm_perm _ h
def opp (L : Rws α) : Rws α := L.map fun r => (r.1, -r.2)
theorem own_opp (L : Rws α) (n : α) : own (opp L) n = - own L n := by
  unfold own opp
  rw [sm_map]
  have : ∀ r : α × Int, (if r.1 = n then -r.2 else 0) = (-1) * (if r.1 = n then r.2 else 0) := fun r => by split <;> omega
  simp only [this, sm_mul]; omega
theorem own_back (L R : Rws α) (n : α) : own (L ++ R ++ opp R) n = own L n := by
  rw [own_append, own_append, own_opp]; omega
theorem own_none {L : Rws α} {n : α} (h : ∀ r ∈ L, r.1 ≠ n) : own L n = 0 :=
  sm_zero fun r hr => by simp [h r hr]
/-- whatever is summed over the rows by name is summed over the owns -/
theorem by_name (L : Rws α) {K : List α} (hK : K.Nodup) (hc : ∀ r ∈ L, r.1 ∈ K) (p : α → Bool) :
    sm (fun r => if p r.1 = true then r.2 else 0) L = sm (fun n => if p n = true then own L n else 0) K := by
  have e1 : sm (fun n => if p n = true then own L n else 0) K = sm (fun n => sm (fun r => if r.1 = n then (if p r.1 = true then r.2 else 0) else 0) L) K := by
    refine sm_congr fun n _ => ?_
    unfold own
    by_cases hp : p n = true
    · rw [if_pos hp]
      refine sm_congr fun r _ => ?_
      by_cases e : r.1 = n
      · subst e; simp [hp]
      · simp [e]
    · rw [if_neg hp]
      refine (sm_zero fun r _ => ?_).symm
      by_cases e : r.1 = n
      · subst e; simp [hp]
      · simp [e]
  rw [e1, sm_swap]
  refine sm_congr fun r hr => ?_
  have := sm_one hK r.1 (if p r.1 = true then r.2 else 0)
  rw [if_pos (hc r hr)] at this
  refine this.symm.trans (sm_congr fun n _ => ?_)
  by_cases e : n = r.1
  · subst e; simp
  · have e' : ¬ r.1 = n := fun h => e h.symm
    simp [e, e']
/-- the same over the names that count alone -/
theorem by_held (L : Rws α) {K : List α} (hK : K.Nodup) (hc : ∀ n, own L n ≠ 0 → n ∈ K) (p : α → Bool) :
    sm (fun r => if p r.1 = true then r.2 else 0) L = sm (fun n => if p n = true then own L n else 0) K := by
  have hM : (nub (L.map (·.1))).Nodup := nodup_nub _
  rw [by_name L hM (fun r hr => (mem_nub _ _).2 (List.mem_map_of_mem (f := (·.1)) hr)) p]
  refine sm_same hM hK fun n hn => ?_
  have h0 : own L n ≠ 0 := fun h => hn (by simp [h])
  refine ⟨fun _ => hc n h0, fun _ => ?_⟩
  rw [mem_nub, List.mem_map]
  refine Classical.byContradiction fun hno => h0 (own_none fun r hr e => hno ⟨r, hr, e⟩)

def pos (v : Int) : Int := if v > 0 then v else 0
def neg (v : Int) : Int := if v > 0 then 0 else -v
theorem pos_nonneg (v : Int) : 0 ≤ pos v := by unfold pos; split <;> omega
theorem neg_nonneg (v : Int) : 0 ≤ neg v := by unfold neg; split <;> omega
theorem pos_neg (v : Int) : pos v - neg v = v := by unfold pos neg; split <;> omega
/-- the two sides over a list of names that holds all that count -/
def deb (L : Rws α) (K : List α) : Int := sm (fun n => pos (own L n)) K
def cre (L : Rws α) (K : List α) : Int := sm (fun n => neg (own L n)) K
theorem deb_same {L M : Rws α} {K J : List α} (hK : K.Nodup) (hJ : J.Nodup) (hc : ∀ n, own L n ≠ 0 → n ∈ K) (hd : ∀ n, own M n ≠ 0 → n ∈ J) (h : ∀ n, own L n = own M n) : deb L K = deb M J := by
  unfold deb
  rw [sm_congr (g := fun n => pos (own M n)) fun n _ => by rw [h n]]
  refine sm_same hK hJ fun n hn => ?_
  have h0 : own M n ≠ 0 := fun e => hn (by simp [e, pos])
  exact ⟨fun _ => hd n h0, fun _ => hc n (by rw [h n]; exact h0)⟩
theorem cre_same {L M : Rws α} {K J : List α} (hK : K.Nodup) (hJ : J.Nodup) (hc : ∀ n, own L n ≠ 0 → n ∈ K) (hd : ∀ n, own M n ≠ 0 → n ∈ J) (h : ∀ n, own L n = own M n) : cre L K = cre M J := by
  unfold cre
  rw [sm_congr (g := fun n => neg (own M n)) fun n _ => by rw [h n]]
  refine sm_same hK hJ fun n hn => ?_
  have h0 : own M n ≠ 0 := fun e => hn (by simp [e, neg])
  exact ⟨fun _ => hd n h0, fun _ => hc n (by rw [h n]; exact h0)⟩
theorem sides_tot (L : Rws α) {K : List α} (hK : K.Nodup) (hc : ∀ n, own L n ≠ 0 → n ∈ K) : deb L K - cre L K = tot L := by
  unfold deb cre tot
  rw [← sm_sub]
  have h := by_held L hK hc (fun _ => true)
  simp only [if_true] at h
  rw [h]
  exact sm_congr fun n _ => pos_neg _

/-- names with those above them, the nearest first -/
structure Ups (up : α → List α) : Prop where
  step : ∀ x p t, up x = p :: t → t = up p
  once : ∀ x, (x :: up x).Nodup
def roll (up : α → List α) (L : Rws α) (n : α) : Int := sm (fun r => if n ∈ r.1 :: up r.1 then r.2 else 0) L
theorem roll_append (up : α → List α) (L M : Rws α) (n : α) : roll up (L ++ M) n = roll up L n + roll up M n := sm_append _ _ _
theorem roll_held (up : α → List α) (L : Rws α) {K : List α} (hK : K.Nodup) (hc : ∀ n, own L n ≠ 0 → n ∈ K) (n : α) :
    roll up L n = sm (fun x => if n ∈ x :: up x then own L x else 0) K := by
  have h := by_held L hK hc (fun x => decide (n ∈ x :: up x))
  simp only [decide_eq_true_eq] at h
  exact h
/-- rolls are told by the owns -/
theorem roll_own (up : α → List α) {L M : Rws α} (h : ∀ n, own L n = own M n) (n : α) : roll up L n = roll up M n := by
  have hM : (nub ((L ++ M).map (·.1))).Nodup := nodup_nub _
  have hc : ∀ n, own L n ≠ 0 → n ∈ nub ((L ++ M).map (·.1)) := fun n h0 => by
    rw [mem_nub, List.mem_map]
    refine Classical.byContradiction fun hno => h0 (own_none fun r hr e => hno ⟨r, by simp [hr], e⟩)
  rw [roll_held up L hM hc, roll_held up M hM (fun n h0 => hc n (by rw [h n]; exact h0))]
  exact sm_congr fun x _ => by rw [h x]
theorem roll_zero (up : α → List α) {L : Rws α} {n : α} (h : ∀ x, n ∈ x :: up x → own L x = 0) : roll up L n = 0 := by
  have hM : (nub (L.map (·.1))).Nodup := nodup_nub _
  have hc : ∀ n, own L n ≠ 0 → n ∈ nub (L.map (·.1)) := fun n h0 => by
    rw [mem_nub, List.mem_map]
    refine Classical.byContradiction fun hno => h0 (own_none fun r hr e => hno ⟨r, hr, e⟩)
  rw [roll_held up L hM hc]
  refine sm_zero fun x _ => ?_
  split
  · rename_i hx; exact h x hx
  · rfl
theorem roll_le (up : α → List α) (L : Rws α) {K : List α} (hK : K.Nodup) (hc : ∀ n, own L n ≠ 0 → n ∈ K) (n : α) : roll up L n ≤ deb L K := by
  rw [roll_held up L hK hc]
  refine sm_le fun x _ => ?_
  show (if n ∈ x :: up x then own L x else 0) ≤ pos (own L x)
  unfold pos
  split <;> split <;> omega
theorem roll_ge (up : α → List α) (L : Rws α) {K : List α} (hK : K.Nodup) (hc : ∀ n, own L n ≠ 0 → n ∈ K) (n : α) : -cre L K ≤ roll up L n := by
  rw [roll_held up L hK hc]
  have e : -cre L K = sm (fun x => -1 * neg (own L x)) K := by rw [sm_mul]; unfold cre; omega
  rw [e]
  refine sm_le fun x _ => ?_
  show -1 * neg (own L x) ≤ (if n ∈ x :: up x then own L x else 0)
  unfold neg
  split <;> split <;> omega
theorem up_ind {up : α → List α} (hu : Ups up) {P : α → Prop} (h0 : ∀ x, up x = [] → P x) (h1 : ∀ x p, up x = p :: up p → P p → P x) : ∀ x, P x := by
  have key : ∀ k x, (up x).length = k → P x := by
    intro k
    induction k with
    | zero => intro x h; exact h0 x (List.length_eq_zero_iff.1 h)
    | succ k ih =>
      intro x h
      match e : up x with
      | [] => simp [e] at h
      | p :: t =>
        obtain rfl := hu.step x p t e
        exact h1 x p e (ih p (by simpa [e] using h))
  exact fun x => key _ x rfl
/-- of a name and those above it, one lies right below n if n is above it -/
theorem one_below {up : α → List α} (hu : Ups up) (n : α) (a : Int) (x : α) : sm (fun m => if (up m).head? = some n then a else 0) (x :: up x) = if n ∈ up x then a else 0 := by
  refine up_ind hu (P := fun x => sm (fun m => if (up m).head? = some n then a else 0) (x :: up x) = if n ∈ up x then a else 0) (fun x e => ?_) (fun x p e ih => ?_) x
  · simp [e, sm]
  · rw [e, sm, ih, e]
    have ho := hu.once x
    rw [e, List.nodup_cons, List.nodup_cons] at ho
    simp only [List.head?_cons, Option.some.injEq, List.mem_cons]
    by_cases h : p = n
    · subst h; simp [ho.2.1]
    · have h' : ¬ n = p := fun q => h q.symm
      simp [h, h']
/-- of a name and those above it, one is a root -/
theorem one_root {up : α → List α} (hu : Ups up) (a : Int) (x : α) : sm (fun m => if up m = [] then a else 0) (x :: up x) = a := by
  refine up_ind hu (P := fun x => sm (fun m => if up m = [] then a else 0) (x :: up x) = a) (fun x e => ?_) (fun x p e ih => ?_) x
  · simp [e, sm]
  · rw [e, sm, ih, e]; simp
/-- a roll is the own balance and the rolls right below -/
theorem roll_tree {up : α → List α} (hu : Ups up) (L : Rws α) {K : List α} (hK : K.Nodup) (hc : ∀ x n, own L x ≠ 0 → n ∈ x :: up x → n ∈ K) (n : α) :
    roll up L n = own L n + sm (fun m => if (up m).head? = some n then roll up L m else 0) K := by
  have hc1 : ∀ x, own L x ≠ 0 → x ∈ K := fun x h => hc x x h (by simp)
  have e1 : sm (fun m => if (up m).head? = some n then roll up L m else 0) K = sm (fun x => if n ∈ up x then own L x else 0) K := by
    rw [sm_congr (g := fun m => sm (fun x => if (up m).head? = some n ∧ m ∈ x :: up x then own L x else 0) K) fun m _ => ?_]
    · rw [sm_swap]
      refine sm_congr fun x hx => ?_
      rw [← one_below hu n (own L x) x]
      by_cases h0 : own L x = 0
      · rw [h0]; simp only [ite_self]; rw [sm_zero fun _ _ => rfl, sm_zero fun _ _ => rfl]
      · rw [sm_congr (a := x :: up x) (g := fun m => if (up m).head? = some n ∧ m ∈ x :: up x then own L x else 0) fun m hm => by simp only [hm, and_true]]
        refine sm_same hK (hu.once x) fun m hm => ?_
        have hm' : m ∈ x :: up x := Classical.byContradiction fun q => hm (by rw [if_neg fun z => q z.2])
        exact ⟨fun _ => hm', fun _ => hc x m h0 hm'⟩
    · rw [roll_held up L hK hc1]
      by_cases h : (up m).head? = some n
      · simp only [h, if_true, true_and]
      · simp only [h, if_false, false_and]; exact (sm_zero fun _ _ => rfl).symm
  rw [e1, roll_held up L hK hc1]
  have e2 : own L n = sm (fun x => if x = n then own L x else 0) K := by
    rw [sm_congr (g := fun x => if x = n then own L n else 0) fun x _ => by by_cases e : x = n <;> simp [e], sm_one hK]
    by_cases h : n ∈ K
    · rw [if_pos h]
    · rw [if_neg h]; exact Classical.byContradiction fun q => h (hc1 n q)
  rw [e2, ← sm_add]
  refine sm_congr fun x _ => ?_
  have ho := hu.once x
  rw [List.nodup_cons] at ho
  by_cases e : x = n
  · subst e; simp [ho.1]
  · have e' : ¬ n = x := fun q => e q.symm
    simp [e, e']
/-- the roots' rolls are all -/
theorem roll_roots {up : α → List α} (hu : Ups up) (L : Rws α) {K : List α} (hK : K.Nodup) (hc : ∀ x n, own L x ≠ 0 → n ∈ x :: up x → n ∈ K) :
    sm (fun m => if up m = [] then roll up L m else 0) K = tot L := by
  have hc1 : ∀ x, own L x ≠ 0 → x ∈ K := fun x h => hc x x h (by simp)
  have h := by_held L hK hc1 (fun _ => true)
  simp only [if_true] at h
  unfold tot
  rw [h]
  rw [sm_congr (g := fun m => sm (fun x => if up m = [] ∧ m ∈ x :: up x then own L x else 0) K) fun m _ => ?_]
  · rw [sm_swap]
    refine sm_congr fun x hx => ?_
    by_cases h0 : own L x = 0
    · rw [h0]; simp only [ite_self]; exact sm_zero fun _ _ => rfl
    · refine Eq.trans ?_ (one_root hu (own L x) x)
      rw [sm_congr (a := x :: up x) (g := fun m => if up m = [] ∧ m ∈ x :: up x then own L x else 0) fun m hm => by simp only [hm, and_true]]
      refine sm_same hK (hu.once x) fun m hm => ?_
      have hm' : m ∈ x :: up x := Classical.byContradiction fun q => hm (by rw [if_neg fun z => q z.2])
      exact ⟨fun _ => hm', fun _ => hc x m h0 hm'⟩
  · rw [roll_held up L hK hc1]
    by_cases h : up m = []
    · simp only [h, if_true, true_and]
    · simp only [h, if_false, false_and]; exact (sm_zero fun _ _ => rfl).symm
end Go.Proofs.YtmgnlgobkkfjhaaGreatDoor
/- daily: an account's days as plain lists. -/
namespace Go.Proofs.YtmgnlgobkkfjhaaGreatDoor
set_option linter.unusedVariables false
abbrev isA (x : Int) : Prop := -9223372036854775807 ≤ x ∧ x ≤ 9223372036854775807
/-- a day and what is told of it -/
abbrev Td := List (Int × Int)
/-- the balance at the end of a day -/
def blc (T : Td) (d : Int) : Int := sm (fun r => if decide (r.1 ≤ d) = true then r.2 else 0) T
/-- a day, its change, its balance -/
abbrev Mk := Int × Int × Int
def tld (S : List Mk) : Td := S.map fun m => (m.1, m.2.1)
structure Ser (T : Td) (S : List Mk) : Prop where
  up : S.Pairwise fun a b => a.1 < b.1
  is : ∀ m ∈ S, m.2.1 = own T m.1 ∧ m.2.1 ≠ 0 ∧ m.2.2 = blc T m.1
  all : ∀ d, own T d ≠ 0 → ∃ m ∈ S, m.1 = d
def fitT (T : Td) : Prop := ∀ d, isA (own T d) ∧ isA (blc T d)
theorem blc_append (T U : Td) (d : Int) : blc (T ++ U) d = blc T d + blc U d := sm_append _ _ _
theorem blc_nil (d : Int) : blc [] d = 0 := rfl
theorem own_nil (d : Int) : own ([] : Td) d = 0 := rfl
theorem blc_same {T U : Td} (h : ∀ d, own T d = own U d) (d : Int) : blc T d = blc U d := by
  have hK := nodup_nub (T.map (·.1) ++ U.map (·.1))
  have hin : ∀ (V : Td) n, own V n ≠ 0 → n ∈ V.map (·.1) := fun V n hn => by
    by_cases hm : n ∈ V.map (·.1)
    · exact hm
    · exact absurd (own_none fun r hr e => hm (List.mem_map.2 ⟨r, hr, e⟩)) hn
  have h1 := by_held T hK (fun n hn => (mem_nub _ _).2 (List.mem_append_left _ (hin T n hn))) (fun x => decide (x ≤ d))
  have h2 := by_held U hK (fun n hn => (mem_nub _ _).2 (List.mem_append_right _ (hin U n hn))) (fun x => decide (x ≤ d))
  unfold blc
  rw [h1, h2]
  exact sm_congr fun n _ => by rw [h n]
theorem Ser.same {T U : Td} {S : List Mk} (hs : Ser T S) (h : ∀ d, own T d = own U d) : Ser U S where
  up := hs.up
  is m hm := by
    obtain ⟨h1, h2, h3⟩ := hs.is m hm
    exact ⟨h1.trans (h _), h2, h3.trans (blc_same h _)⟩
  all d hd := hs.all d (by rw [h d]; exact hd)
theorem fitT.same {T U : Td} (hf : fitT T) (h : ∀ d, own T d = own U d) : fitT U := fun d => by
  rw [← h d, ← blc_same h d]
  exact hf d
/-- sorted lists with the same members are the same -/
theorem sorted_ext : ∀ (S R : List Mk), S.Pairwise (fun a b => a.1 < b.1) → R.Pairwise (fun a b => a.1 < b.1) → (∀ m, m ∈ S ↔ m ∈ R) → S = R
  | [], [], _, _, _ => rfl
  | [], r :: R, _, _, h => by have := (h r).2 (List.mem_cons_self); cases this
  | s :: S, [], _, _, h => by have := (h s).1 (List.mem_cons_self); cases this
  | s :: S, r :: R, h1, h2, h => by
    rw [List.pairwise_cons] at h1 h2
    have e : s = r := by
      rcases List.mem_cons.1 ((h s).1 List.mem_cons_self) with e | hs
      · exact e
      · rcases List.mem_cons.1 ((h r).2 List.mem_cons_self) with e | hr
        · exact e.symm
        · have a1 := h1.1 r hr
          have a2 := h2.1 s hs
          omega
    subst e
    have hs : s ∉ S := fun hm => by have := h1.1 s hm; omega
    have hr : s ∉ R := fun hm => by have := h2.1 s hm; omega
    rw [sorted_ext S R h1.2 h2.2 fun m => ?_]
    constructor
    · intro hm
      rcases List.mem_cons.1 ((h m).1 (List.mem_cons_of_mem _ hm)) with e | hm'
      · subst e; exact absurd hm hs
      · exact hm'
    · intro hm
      rcases List.mem_cons.1 ((h m).2 (List.mem_cons_of_mem _ hm)) with e | hm'
      · subst e; exact absurd hm hr
      · exact hm'
theorem Ser.sub {T : Td} {S R : List Mk} (h : Ser T S) (k : Ser T R) : ∀ m, m ∈ S → m ∈ R := fun m hm => by
  obtain ⟨h1, h2, h3⟩ := h.is m hm
  obtain ⟨r, hr, e⟩ := k.all m.1 (by rw [← h1]; exact h2)
  obtain ⟨k1, k2, k3⟩ := k.is r hr
  have e2 : r = m := by
    obtain ⟨a, b, c⟩ := m
    obtain ⟨a', b', c'⟩ := r
    simp only at e h1 h3 k1 k3
    subst e
    rw [h1, h3, k1, k3]
  rw [← e2]
  exact hr
theorem Ser.uniq {T : Td} {S R : List Mk} (h : Ser T S) (k : Ser T R) : S = R :=
  sorted_ext S R h.up k.up fun m => ⟨h.sub k m, k.sub h m⟩
theorem Ser.nil : Ser [] [] := ⟨List.Pairwise.nil, (fun m h => by cases h), (fun d h => absurd (own_nil d) h)⟩
theorem fitT.nil : fitT [] := fun d => by rw [own_nil, blc_nil]; exact ⟨⟨by decide, by decide⟩, by decide, by decide⟩
/-- the marks alone tell the same changes -/
theorem own_tld {S : List Mk} (hu : S.Pairwise fun a b => a.1 < b.1) (d : Int) : (∀ m ∈ S, m.1 = d → own (tld S) d = m.2.1) ∧ ((∀ m ∈ S, m.1 ≠ d) → own (tld S) d = 0) := by
  refine ⟨?_, fun h => own_none fun r hr => ?_⟩
  · induction S with
    | nil => intro m h; cases h
    | cons s S ih =>
      rw [List.pairwise_cons] at hu
      intro m hm e
      have hc : own (tld (s :: S)) d = (if s.1 = d then s.2.1 else 0) + own (tld S) d := rfl
      rcases List.mem_cons.1 hm with e2 | hm
      · subst e2
        rw [hc, if_pos e, own_none fun r hr => ?_]
        · omega
        · obtain ⟨q, hq, rfl⟩ := List.mem_map.1 hr
          have := hu.1 q hq
          simp only
          omega
      · have := hu.1 m hm
        rw [hc, if_neg (by omega), ih hu.2 m hm e]
        omega
  · obtain ⟨q, hq, rfl⟩ := List.mem_map.1 hr
    exact h q hq
theorem Ser.own_tld {T : Td} {S : List Mk} (h : Ser T S) (d : Int) : own (tld S) d = own T d := by
  obtain ⟨h1, h2⟩ := YtmgnlgobkkfjhaaGreatDoor.own_tld h.up d
  by_cases hd : own T d = 0
  · rw [hd]
    refine h2 fun m hm e => ?_
    obtain ⟨k1, k2, _⟩ := h.is m hm
    rw [e] at k1
    omega
  · obtain ⟨m, hm, e⟩ := h.all d hd
    rw [h1 m hm e, (h.is m hm).1, e]
theorem blc_before {T : Td} {d : Int} (h : ∀ r ∈ T, d < r.1) : blc T d = 0 := sm_zero fun r hr => by
  rw [if_neg]
  have := h r hr
  simp
  omega
theorem blc_behind {T : Td} {d : Int} (h : ∀ r ∈ T, r.1 ≤ d) : blc T d = tot T := sm_congr fun r hr => by
  rw [if_pos]
  simpa using h r hr
/-- a day's rows behind those of earlier days -/
theorem step_own {V G : Td} {d : Int} (hV : ∀ r ∈ V, r.1 < d) (hG : ∀ r ∈ G, r.1 = d) (x : Int) : own (V ++ G) x = if x = d then tot G else own V x := by
  rw [own_append]
  by_cases hx : x = d
  · subst hx
    rw [if_pos rfl, own_none (fun r hr => by have := hV r hr; omega)]
    have : own G x = tot G := sm_congr fun r hr => by rw [if_pos (hG r hr)]
    omega
  · rw [if_neg hx, own_none (L := G) (fun r hr => by have := hG r hr; omega)]
    omega
theorem step_bal {V G : Td} {d : Int} (hV : ∀ r ∈ V, r.1 < d) (hG : ∀ r ∈ G, r.1 = d) (x : Int) : blc (V ++ G) x = if x < d then blc V x else tot V + tot G := by
  rw [blc_append]
  by_cases hx : x < d
  · rw [if_pos hx, blc_before (T := G) (fun r hr => by have := hG r hr; omega)]
    omega
  · rw [if_neg hx, blc_behind (T := G) (fun r hr => by have := hG r hr; omega), blc_behind (T := V) (fun r hr => by have := hV r hr; omega)]
theorem step_ser {V G : Td} {d : Int} {S : List Mk} (hV : ∀ r ∈ V, r.1 < d) (hG : ∀ r ∈ G, r.1 = d) (hS : Ser V S) : Ser (V ++ G) (if tot G = 0 then S else S ++ [(d, tot G, tot V + tot G)]) := by
  have hd : ∀ m ∈ S, m.1 < d := fun m hm => by
    obtain ⟨h1, h2, _⟩ := hS.is m hm
    by_cases hc : m.1 < d
    · exact hc
    · exfalso
      apply h2
      rw [h1]
      exact own_none fun r hr => by have := hV r hr; omega
  have hold : ∀ m ∈ S, m.2.1 = own (V ++ G) m.1 ∧ m.2.1 ≠ 0 ∧ m.2.2 = blc (V ++ G) m.1 := fun m hm => by
    obtain ⟨h1, h2, h3⟩ := hS.is m hm
    have := hd m hm
    rw [step_own hV hG, step_bal hV hG, if_neg (by omega), if_pos this]
    exact ⟨h1, h2, h3⟩
  by_cases hz : tot G = 0
  · rw [if_pos hz]
    refine ⟨hS.up, hold, fun x hx => ?_⟩
    rw [step_own hV hG] at hx
    by_cases hxd : x = d
    · rw [if_pos hxd] at hx; exact absurd hz hx
    · rw [if_neg hxd] at hx; exact hS.all x hx
  · rw [if_neg hz]
    refine ⟨?_, fun m hm => ?_, fun x hx => ?_⟩
    · rw [List.pairwise_append]
      refine ⟨hS.up, List.pairwise_singleton _ _, fun a ha b hb => ?_⟩
      rw [List.mem_singleton] at hb
      subst hb
      exact hd a ha
    · rcases List.mem_append.1 hm with hm | hm
      · exact hold m hm
      · rw [List.mem_singleton] at hm
        subst hm
        simp only
        rw [step_own hV hG, step_bal hV hG, if_pos rfl, if_neg (by omega)]
        exact ⟨rfl, hz, rfl⟩
    · rw [step_own hV hG] at hx
      by_cases hxd : x = d
      · exact ⟨_, List.mem_append_right _ (List.mem_singleton.2 rfl), hxd.symm⟩
      · rw [if_neg hxd] at hx
        obtain ⟨m, hm, e⟩ := hS.all x hx
        exact ⟨m, List.mem_append_left _ hm, e⟩
theorem step_fit {V G : Td} {d : Int} (hV : ∀ r ∈ V, r.1 < d) (hG : ∀ r ∈ G, r.1 = d) (hf : fitT V) (h1 : isA (tot G)) (h2 : isA (tot V + tot G)) : fitT (V ++ G) := fun x => by
  rw [step_own hV hG, step_bal hV hG]
  constructor
  · split
    · exact h1
    · exact (hf x).1
  · split
    · exact (hf x).2
    · exact h2
theorem step_bad {V G R : Td} {d : Int} (hV : ∀ r ∈ V, r.1 < d) (hG : ∀ r ∈ G, r.1 = d) (hR : ∀ r ∈ R, d < r.1) (h : ¬ (isA (tot G) ∧ isA (tot V + tot G))) : ¬ fitT (V ++ G ++ R) := fun hf => by
  apply h
  have h3 := hf d
  rw [own_append, blc_append, step_own hV hG, step_bal hV hG, if_pos rfl, if_neg (by omega), own_none (L := R) (fun r hr => by have := hR r hr; omega), blc_before hR, Int.add_zero, Int.add_zero] at h3
  exact h3
/-- the staying marks -/
theorem Ser.take {T : Td} {S : List Mk} (h : Ser T S) (k : Nat) : Ser (tld (S.take k)) (S.take k) := by
  have hu : (S.take k).Pairwise fun a b => a.1 < b.1 := h.up.sublist (List.take_sublist _ _)
  have hlt : ∀ a ∈ S.take k, ∀ b ∈ S.drop k, a.1 < b.1 := fun a ha b hb => by
    have := h.up
    rw [← List.take_append_drop k S, List.pairwise_append] at this
    exact this.2.2 a ha b hb
  refine ⟨hu, fun m hm => ?_, fun d hd => ?_⟩
  · have hmS : m ∈ S := List.mem_of_mem_take hm
    obtain ⟨h1, h2, h3⟩ := h.is m hmS
    refine ⟨((YtmgnlgobkkfjhaaGreatDoor.own_tld hu m.1).1 m hm rfl).symm, h2, ?_⟩
    rw [h3, ← blc_same h.own_tld]
    have e : tld S = tld (S.take k) ++ tld (S.drop k) := by unfold tld; rw [← List.map_append, List.take_append_drop]
    rw [e, blc_append, blc_before (T := tld (S.drop k)) (fun r hr => ?_)]
    · omega
    · obtain ⟨b, hb, rfl⟩ := List.mem_map.1 hr
      exact hlt m hm b hb
  · by_cases hm : ∃ m ∈ S.take k, m.1 = d
    · exact hm
    · exact absurd ((YtmgnlgobkkfjhaaGreatDoor.own_tld hu d).2 fun m hmm e => hm ⟨m, hmm, e⟩) hd
/-- the last mark's balance is all that was told -/
theorem Ser.tot_last {S : List Mk} {m : Mk} (h : Ser (tld (S ++ [m])) (S ++ [m])) : tot (tld (S ++ [m])) = m.2.2 := by
  obtain ⟨_, _, h3⟩ := h.is m (List.mem_append_right _ (List.mem_singleton.2 rfl))
  rw [h3]
  refine (blc_behind fun r hr => ?_).symm
  obtain ⟨b, hb, rfl⟩ := List.mem_map.1 hr
  rcases List.mem_append.1 hb with hb | hb
  · have := h.up
    rw [List.pairwise_append] at this
    have := this.2.2 b hb m (List.mem_singleton.2 rfl)
    simp only
    omega
  · rw [List.mem_singleton] at hb
    subst hb
    exact Int.le_refl _
theorem Ser.take_fit {T : Td} {S : List Mk} (h : Ser T S) (hf : fitT T) : ∀ k, fitT (tld (S.take k))
  | 0 => by rw [List.take_zero]; exact fitT.nil
  | k + 1 => by
    by_cases hk : k < S.length
    · have e : S.take (k + 1) = S.take k ++ [S[k]] := List.take_succ_eq_append_getElem hk
      have hm : S[k] ∈ S := List.getElem_mem hk
      obtain ⟨h1, h2, h3⟩ := h.is _ hm
      have ht := h.take (k + 1)
      rw [e] at ht ⊢
      have hl := ht.tot_last
      have e2 : tld (S.take k ++ [S[k]]) = tld (S.take k) ++ [(S[k].1, S[k].2.1)] := by unfold tld; rw [List.map_append]; rfl
      have hV : ∀ r ∈ tld (S.take k), r.1 < S[k].1 := fun r hr => by
        obtain ⟨b, hb, rfl⟩ := List.mem_map.1 hr
        have := ht.up
        rw [List.pairwise_append] at this
        exact this.2.2 b hb _ (List.mem_singleton.2 rfl)
      have hG : ∀ r ∈ [(S[k].1, S[k].2.1)], r.1 = S[k].1 := fun r hr => by rw [List.mem_singleton] at hr; subst hr; rfl
      have et : tot [(S[k].1, S[k].2.1)] = S[k].2.1 := by simp [tot, sm]
      rw [e2] at hl ⊢
      have etot : tot (tld (S.take k)) + tot [(S[k].1, S[k].2.1)] = S[k].2.2 := by
        rw [← hl]
        exact (sm_append _ _ _).symm
      refine step_fit hV hG (h.take_fit hf k) ?_ ?_
      · rw [et, h1]; exact (hf _).1
      · rw [etot, h3]; exact (hf _).2
    · rw [List.take_of_length_le (by omega), ← List.take_of_length_le (show S.length ≤ k by omega)]
      exact h.take_fit hf k
/-- rows told to a series: those that stay, and all others by their days -/
theorem own_cut {T M A : Td} {S : List Mk} (h : Ser T S) (k : Nat) (hA : A.Perm (M ++ tld (S.drop k))) (d : Int) : own (tld (S.take k) ++ A) d = own (T ++ M) d := by
  rw [own_append, own_append, own_perm hA, own_append, ← h.own_tld d]
  have e : tld S = tld (S.take k) ++ tld (S.drop k) := by unfold tld; rw [← List.map_append, List.take_append_drop]
  rw [e, own_append]
  omega
end Go.Proofs.YtmgnlgobkkfjhaaGreatDoor
