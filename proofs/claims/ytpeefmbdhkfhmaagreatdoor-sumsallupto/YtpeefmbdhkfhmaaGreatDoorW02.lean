import Derived.Test.YtpeefmbdhkfhmaaGreatDoorW01
import Derived.Lib.LastIndexByte
import Derived.Laws.AppendOwn
import Derived.Laws.AppendOwnNone
import Derived.Laws.OwnMore
import Derived.Deep.AppendLies
import Derived.Deep.MidRow
import Derived.Laws.MakeOwn
import Derived.Maps.AppendAt
/- Layer 8, no program in it: what rows (a name, an amount) sum up to; names with those above them. -/
namespace Go.Proofs.YtpeefmbdhkfhmaaGreatDoor
set_option linter.unusedSectionVars false
/-- the sum of f over a list -/
def sm {β : Type} (f : β → Int) : List β → Int
  | [] => 0
  | a :: l => f a + sm f l
theorem sm_append {β : Type} (f : β → Int) (a b : List β) : sm f (a ++ b) = sm f a + sm f b := by
  induction a with
  | nil => simp [sm]
  | cons x a ih => simp only [List.cons_append, sm, ih]; omega
theorem sm_add {β : Type} (f g : β → Int) (a : List β) : sm (fun x => f x + g x) a = sm f a + sm g a := by
  induction a with
  | nil => simp [sm]
  | cons x a ih => simp only [sm, ih]; omega
theorem sm_sub {β : Type} (f g : β → Int) (a : List β) : sm (fun x => f x - g x) a = sm f a - sm g a := by
  induction a with
  | nil => simp [sm]
  | cons x a ih => simp only [sm, ih]; omega
theorem sm_zero {β : Type} {f : β → Int} {a : List β} (h : ∀ x ∈ a, f x = 0) : sm f a = 0 := by
  induction a with
  | nil => rfl
  | cons x a ih => simp only [sm, h x (by simp), ih fun y hy => h y (by simp [hy])]; omega
theorem sm_congr {β : Type} {f g : β → Int} {a : List β} (h : ∀ x ∈ a, f x = g x) : sm f a = sm g a := by
  induction a with
  | nil => rfl
  | cons x a ih => simp only [sm, h x (by simp), ih fun y hy => h y (by simp [hy])]
theorem sm_le {β : Type} {f g : β → Int} {a : List β} (h : ∀ x ∈ a, f x ≤ g x) : sm f a ≤ sm g a := by
  induction a with
  | nil => simp [sm]
  | cons x a ih =>
    have h1 := h x (by simp)
    have h2 := ih fun y hy => h y (by simp [hy])
    simp only [sm]; omega
theorem sm_perm {β : Type} (f : β → Int) {a b : List β} (h : a.Perm b) : sm f a = sm f b := by
  induction h with
  | nil => rfl
  | cons x _ ih => simp only [sm, ih]
  | swap x y l => simp only [sm]; omega
  | trans _ _ h1 h2 => exact h1.trans h2
theorem sm_map {β γ : Type} (f : β → Int) (g : γ → β) (a : List γ) : sm f (a.map g) = sm (fun x => f (g x)) a := by
  induction a with
  | nil => rfl
  | cons x a ih => simp only [List.map_cons, sm, ih]
theorem sm_filter {β : Type} (f : β → Int) (p : β → Bool) (a : List β) : sm f (a.filter p) = sm (fun x => if p x = true then f x else 0) a := by
  induction a with
  | nil => rfl
  | cons x a ih =>
    cases h : p x
    · rw [List.filter_cons_of_neg (by simp [h])]; simp only [sm, ih, h]; simp
    · rw [List.filter_cons_of_pos h]; simp only [sm, ih, h]; simp
theorem sm_swap {β γ : Type} (f : β → γ → Int) (a : List β) (b : List γ) : sm (fun x => sm (fun y => f x y) b) a = sm (fun y => sm (fun x => f x y) a) b := by
  induction a with
  | nil => simp only [sm]; exact (sm_zero fun _ _ => rfl).symm
  | cons x a ih => simp only [sm, ih, sm_add]
theorem sm_mul {β : Type} (c : Int) (f : β → Int) (a : List β) : sm (fun x => c * f x) a = c * sm f a := by
  induction a with
  | nil => simp [sm]
  | cons x a ih => simp only [sm, ih, Int.mul_add]
variable {α : Type} [DecidableEq α]
/-- one name: the sum over a list without doubles of what is 0 elsewhere -/
theorem sm_one {K : List α} (hK : K.Nodup) (n : α) (v : Int) : sm (fun x => if x = n then v else 0) K = if n ∈ K then v else 0 := by
  induction K with
  | nil => simp [sm]
  | cons x K ih =>
    rw [List.nodup_cons] at hK
    simp only [sm, ih hK.2, List.mem_cons]
    by_cases h : x = n
    · subst h; simp [hK.1]
    · have h' : ¬ n = x := fun e => h e.symm
      simp [h, h']
/-- two lists without doubles that hold the same of what counts -/
theorem sm_same {f : α → Int} {K M : List α} (hK : K.Nodup) (hM : M.Nodup) (h : ∀ x, f x ≠ 0 → (x ∈ K ↔ x ∈ M)) : sm f K = sm f M := by
  have key : ∀ A : List α, sm f A = sm f (A.filter fun x => decide (f x ≠ 0)) := fun A => by
    rw [sm_filter]
    refine sm_congr fun x _ => ?_
    by_cases e : f x = 0 <;> simp [e]
  rw [key K, key M]
  refine sm_perm f ((List.perm_ext_iff_of_nodup (hK.sublist List.filter_sublist) (hM.sublist List.filter_sublist)).2 fun x => ?_)
  simp only [List.mem_filter, decide_eq_true_eq]
  exact ⟨fun ⟨a, b⟩ => ⟨(h x b).1 a, b⟩, fun ⟨a, b⟩ => ⟨(h x b).2 a, b⟩⟩

/-- each once -/
def nub : List α → List α
  | [] => []
  | a :: l => if a ∈ nub l then nub l else a :: nub l
theorem mem_nub (x : α) : ∀ l : List α, x ∈ nub l ↔ x ∈ l
  | [] => by simp [nub]
  | a :: l => by
    have ih := mem_nub x l
    unfold nub
    split
    · rename_i h
      rw [List.mem_cons, ih]
      exact ⟨Or.inr, fun q => q.elim (fun e => by subst e; exact (mem_nub _ l).1 h) id⟩
    · rw [List.mem_cons, List.mem_cons, ih]
theorem nodup_nub : ∀ l : List α, (nub l).Nodup
  | [] => by simp [nub]
  | a :: l => by
    unfold nub
    split
    · exact nodup_nub l
    · rename_i h; exact List.nodup_cons.2 ⟨h, nodup_nub l⟩

/-- rows: a name and an amount -/
abbrev Rws (α : Type) := List (α × Int)
def own (L : Rws α) (n : α) : Int := sm (fun r => if r.1 = n then r.2 else 0) L
def tot (L : Rws α) : Int := sm (fun r => r.2) L
theorem own_append (L M : Rws α) (n : α) : own (L ++ M) n = own L n + own M n := sm_append _ _ _
theorem own_perm {L M : Rws α} (h : L.Perm M) (n : α) : own L n = own M n := sm_perm _ h
def opp (L : Rws α) : Rws α := L.map fun r => (r.1, -r.2)
theorem own_opp (L : Rws α) (n : α) : own (opp L) n = - own L n := by
  unfold own opp
  rw [sm_map]
  have : ∀ r : α × Int, (if r.1 = n then -r.2 else 0) = (-1) * (if r.1 = n then r.2 else 0) := fun r => by split <;> omega
  simp only [this, sm_mul]; omega
theorem own_back (L R : Rws α) (n : α) : own (L ++ R ++ opp R) n = own L n := by
  rw [own_append, own_append, own_opp]; omega
theorem own_none {L : Rws α} {n : α} (h : ∀ r ∈ L, r.1 ≠ n) : own L n = 0 :=
  sm_zero fun r hr => by simp [h r hr]
/-- whatever is summed over the rows by name is summed over the owns -/
theorem by_name (L : Rws α) {K : List α} (hK : K.Nodup) (hc : ∀ r ∈ L, r.1 ∈ K) (p : α → Bool) :
    sm (fun r => if p r.1 = true then r.2 else 0) L = sm (fun n => if p n = true then own L n else 0) K := by
  have e1 : sm (fun n => if p n = true then own L n else 0) K = sm (fun n => sm (fun r => if r.1 = n then (if p r.1 = true then r.2 else 0) else 0) L) K := by
    refine sm_congr fun n _ => ?_
    unfold own
    by_cases hp : p n = true
    · rw [if_pos hp]
      refine sm_congr fun r _ => ?_
      by_cases e : r.1 = n
      · subst e; simp [hp]
      · simp [e]
    · rw [if_neg hp]
      refine (sm_zero fun r _ => ?_).symm
      by_cases e : r.1 = n
      · subst e; simp [hp]
      · simp [e]
  rw [e1, sm_swap]
  refine sm_congr fun r hr => ?_
  have := sm_one hK r.1 (if p r.1 = true then r.2 else 0)
  rw [if_pos (hc r hr)] at this
  refine this.symm.trans (sm_congr fun n _ => ?_)
  by_cases e : n = r.1
  · subst e; simp
  · have e' : ¬ r.1 = n := fun h => e h.symm
    simp [e, e']
/-- the same over the names that count alone -/
theorem by_held (L : Rws α) {K : List α} (hK : K.Nodup) (hc : ∀ n, own L n ≠ 0 → n ∈ K) (p : α → Bool) :
    sm (fun r => if p r.1 = true then r.2 else 0) L = sm (fun n => if p n = true then own L n else 0) K := by
  have hM : (nub (L.map (·.1))).Nodup := nodup_nub _
  rw [by_name L hM (fun r hr => (mem_nub _ _).2 (List.mem_map_of_mem (f := (·.1)) hr)) p]
  refine sm_same hM hK fun n hn => ?_
  have h0 : own L n ≠ 0 := fun h => hn (by simp [h])
  refine ⟨fun _ => hc n h0, fun _ => ?_⟩
  rw [mem_nub, List.mem_map]
  refine Classical.byContradiction fun hno => h0 (own_none fun r hr e => hno ⟨r, hr, e⟩)

def pos (v : Int) : Int := if v > 0 then v else 0
def neg (v : Int) : Int := if v > 0 then 0 else -v
theorem pos_nonneg (v : Int) : 0 ≤ pos v := by unfold pos; split <;> omega
theorem neg_nonneg (v : Int) : 0 ≤ neg v := by unfold neg; split <;> omega
theorem pos_neg (v : Int) : pos v - neg v = v := by unfold pos neg; split <;> omega
/-- the two sides over a list of names that holds all that count -/
def deb (L : Rws α) (K : List α) : Int := sm (fun n => pos (own L n)) K
def cre (L : Rws α) (K : List α) : Int := sm (fun n => neg (own L n)) K
theorem deb_same {L M : Rws α} {K J : List α} (hK : K.Nodup) (hJ : J.Nodup) (hc : ∀ n, own L n ≠ 0 → n ∈ K) (hd : ∀ n, own M n ≠ 0 → n ∈ J) (h : ∀ n, own L n = own M n) : deb L K = deb M J := by
  unfold deb
  rw [sm_congr (g := fun n => pos (own M n)) fun n _ => by rw [h n]]
  refine sm_same hK hJ fun n hn => ?_
  have h0 : own M n ≠ 0 := fun e => hn (by simp [e, pos])
  exact ⟨fun _ => hd n h0, fun _ => hc n (by rw [h n]; exact h0)⟩
theorem cre_same {L M : Rws α} {K J : List α} (hK : K.Nodup) (hJ : J.Nodup) (hc : ∀ n, own L n ≠ 0 → n ∈ K) (hd : ∀ n, own M n ≠ 0 → n ∈ J) (h : ∀ n, own L n = own M n) : cre L K = cre M J := by
  unfold cre
  rw [sm_congr (g := fun n => neg (own M n)) fun n _ => by rw [h n]]
  refine sm_same hK hJ fun n hn => ?_
  have h0 : own M n ≠ 0 := fun e => hn (by simp [e, neg])
  exact ⟨fun _ => hd n h0, fun _ => hc n (by rw [h n]; exact h0)⟩
theorem sides_tot (L : Rws α) {K : List α} (hK : K.Nodup) (hc : ∀ n, own L n ≠ 0 → n ∈ K) : deb L K - cre L K = tot L := by
  unfold deb cre tot
  rw [← sm_sub]
  have h := by_held L hK hc (fun _ => true)
  simp only [if_true] at h
  rw [h]
  exact sm_congr fun n _ => pos_neg _

/-- names with those above them, the nearest first -/
structure Ups (up : α → List α) : Prop where
  step : ∀ x p t, up x = p :: t → t = up p
  once : ∀ x, (x :: up x).Nodup
def roll (up : α → List α) (L : Rws α) (n : α) : Int := sm (fun r => if n ∈ r.1 :: up r.1 then r.2 else 0) L
theorem roll_append (up : α → List α) (L M : Rws α) (n : α) : roll up (L ++ M) n = roll up L n + roll up M n := sm_append _ _ _
theorem roll_held (up : α → List α) (L : Rws α) {K : List α} (hK : K.Nodup) (hc : ∀ n, own L n ≠ 0 → n ∈ K) (n : α) :
    roll up L n = sm (fun x => if n ∈ x :: up x then own L x else 0) K := by
  have h := by_held L hK hc (fun x => decide (n ∈ x :: up x))
  simp only [decide_eq_true_eq] at h
  exact h
/-- rolls are told by the owns -/
theorem roll_own (up : α → List α) {L M : Rws α} (h : ∀ n, own L n = own M n) (n : α) : roll up L n = roll up M n := by
  have hM : (nub ((L ++ M).map (·.1))).Nodup := nodup_nub _
  have hc : ∀ n, own L n ≠ 0 → n ∈ nub ((L ++ M).map (·.1)) := fun n h0 => by
    rw [mem_nub, List.mem_map]
    refine Classical.byContradiction fun hno => h0 (own_none fun r hr e => hno ⟨r, by simp [hr], e⟩)
  rw [roll_held up L hM hc, roll_held up M hM (fun n h0 => hc n (by rw [h n]; exact h0))]
  exact sm_congr fun x _ => by rw [h x]
theorem roll_zero (up : α → List α) {L : Rws α} {n : α} (h : ∀ x, n ∈ x :: up x → own L x = 0) : roll up L n = 0 := by
  have hM : (nub (L.map (·.1))).Nodup := nodup_nub _
  have hc : ∀ n, own L n ≠ 0 → n ∈ nub (L.map (·.1)) := fun n h0 => by
    rw [mem_nub, List.mem_map]
    refine Classical.byContradiction fun hno => h0 (own_none fun r hr e => hno ⟨r, hr, e⟩)
  rw [roll_held up L hM hc]
  refine sm_zero fun x _ => ?_
  split
  · rename_i hx; exact h x hx
  · rfl
theorem roll_le (up : α → List α) (L : Rws α) {K : List α} (hK : K.Nodup) (hc : ∀ n, own L n ≠ 0 → n ∈ K) (n : α) : roll up L n ≤ deb L K := by
  rw [roll_held up L hK hc]
  refine sm_le fun x _ => ?_
  show (if n ∈ x :: up x then own L x else 0) ≤ pos (own L x)
  unfold pos
  split <;> split <;> omega
theorem roll_ge (up : α → List α) (L : Rws α) {K : List α} (hK : K.Nodup) (hc : ∀ n, own L n ≠ 0 → n ∈ K) (n : α) : -cre L K ≤ roll up L n := by
  rw [roll_held up L hK hc]
  have e : -cre L K = sm (fun x => -1 * neg (own L x)) K := by rw [sm_mul]; unfold cre; omega
  rw [e]
  refine sm_le fun x _ => ?_
  show -1 * neg (own L x) ≤ (if n ∈ x :: up x then own L x else 0)
  unfold neg
  split <;> split <;> omega
theorem up_ind {up : α → List α} (hu : Ups up) {P : α → Prop} (h0 : ∀ x, up x = [] → P x) (h1 : ∀ x p, up x = p :: up p → P p → P x) : ∀ x, P x := by
  have key : ∀ k x, (up x).length = k → P x := by
    intro k
    induction k with
    | zero => intro x h; exact h0 x (List.length_eq_zero_iff.1 h)
    | succ k ih =>
      intro x h
      match e : up x with
      | [] => simp [e] at h
      | p :: t =>
        obtain rfl := hu.step x p t e
        exact h1 x p e (ih p (by simpa [e] using h))
  exact fun x => key _ x rfl
/-- of a name and those above it, one lies right below n if n is above it -/
theorem one_below {up : α → List α} (hu : Ups up) (n : α) (a : Int) (x : α) : sm (fun m => if (up m).head? = some n then a else 0) (x :: up x) = if n ∈ up x then a else 0 := by
  refine up_ind hu (P := fun x => sm (fun m => if (up m).head? = some n then a else 0) (x :: up x) = if n ∈ up x then a else 0) (fun x e => ?_) (fun x p e ih => ?_) x
  · simp [e, sm]
  · rw [e, sm, ih, e]
    have ho := hu.once x
    rw [e, List.nodup_cons, List.nodup_cons] at ho
    simp only [List.head?_cons, Option.some.injEq, List.mem_cons]
    by_cases h : p = n
    · subst h; simp [ho.2.1]
    · have h' : ¬ n = p := fun q => h q.symm
      simp [h, h']
/-- of a name and those above it, one is a root -/
theorem one_root {up : α → List α} (hu : Ups up) (a : Int) (x : α) : sm (fun m => if up m = [] then a else 0) (x :: up x) = a := by
  refine up_ind hu (P := fun x => sm (fun m => if up m = [] then a else 0) (x :: up x) = a) (fun x e => ?_) (fun x p e ih => ?_) x
  · simp [e, sm]
  · rw [e, sm, ih, e]; simp
/-- a roll is the own balance and the rolls right below -/
theorem roll_tree {up : α → List α} (hu : Ups up) (L : Rws α) {K : List α} (hK : K.Nodup) (hc : ∀ x n, own L x ≠ 0 → n ∈ x :: up x → n ∈ K) (n : α) :
    roll up L n = own L n + sm (fun m => if (up m).head? = some n then roll up L m else 0) K := by
  have hc1 : ∀ x, own L x ≠ 0 → x ∈ K := fun x h => hc x x h (by simp)
  have e1 : sm (fun m => if (up m).head? = some n then roll up L m else 0) K = sm (fun x => if n ∈ up x then own L x else 0) K := by
    rw [sm_congr (g := fun m => sm (fun x => if (up m).head? = some n ∧ m ∈ x :: up x then own L x else 0) K) fun m _ => ?_]
    · rw [sm_swap]
      refine sm_congr fun x hx => ?_
      rw [← one_below hu n (own L x) x]
      by_cases h0 : own L x = 0
      · rw [h0]; simp only [ite_self]; rw [sm_zero fun _ _ => rfl, sm_zero fun _ _ => rfl]
      · rw [sm_congr (a := x :: up x) (g := fun m => if (up m).head? = some n ∧ m ∈ x :: up x then own L x else 0) fun m hm => by simp only [hm, and_true]]
        refine sm_same hK (hu.once x) fun m hm => ?_
        have hm' : m ∈ x :: up x := Classical.byContradiction fun q => hm (by rw [if_neg fun z => q z.2])
        exact ⟨fun _ => hm', fun _ => hc x m h0 hm'⟩
    · rw [roll_held up L hK hc1]
      by_cases h : (up m).head? = some n
      · simp only [h, if_true, true_and]
      · simp only [h, if_false, false_and]; exact (sm_zero fun _ _ => rfl).symm
  rw [e1, roll_held up L hK hc1]
  have e2 : own L n = sm (fun x => if x = n then own L x else 0) K := by
    rw [sm_congr (g := fun x => if x = n then own L n else 0) fun x _ => by by_cases e : x = n <;> simp [e], sm_one hK]
    by_cases h : n ∈ K
    · rw [if_pos h]
    · rw [if_neg h]; exact Classical.byContradiction fun q => h (hc1 n q)
  rw [e2, ← sm_add]
  refine sm_congr fun x _ => ?_
  have ho := hu.once x
  rw [List.nodup_cons] at ho
  by_cases e : x = n
  · subst e; simp [ho.1]
  · have e' : ¬ n = x := fun q => e q.symm
    simp [e, e']
/-- the roots' rolls are all -/
theorem roll_roots {up : α → List α} (hu : Ups up) (L : Rws α) {K : List α} (hK : K.Nodup) (hc : ∀ x n, own L x ≠ 0 → n ∈ x :: up x → n ∈ K) :
    sm (fun m => if up m = [] then roll up L m else 0) K = tot L := by
  have hc1 : ∀ x, own L x ≠ 0 → x ∈ K := fun x h => hc x x h (by simp)
  have h := by_held L hK hc1 (fun _ => true)
  simp only [if_true] at h
  unfold tot
  rw [h]
  rw [sm_congr (g := fun m => sm (fun x => if up m = [] ∧ m ∈ x :: up x then own L x else 0) K) fun m _ => ?_]
  · rw [sm_swap]
    refine sm_congr fun x hx => ?_
    by_cases h0 : own L x = 0
    · rw [h0]; simp only [ite_self]; exact sm_zero fun _ _ => rfl
    · refine Eq.trans ?_ (one_root hu (own L x) x)
      rw [sm_congr (a := x :: up x) (g := fun m => if up m = [] ∧ m ∈ x :: up x then own L x else 0) fun m hm => by simp only [hm, and_true]]
      refine sm_same hK (hu.once x) fun m hm => ?_
      have hm' : m ∈ x :: up x := Classical.byContradiction fun q => hm (by rw [if_neg fun z => q z.2])
      exact ⟨fun _ => hm', fun _ => hc x m h0 hm'⟩
  · rw [roll_held up L hK hc1]
    by_cases h : up m = []
    · simp only [h, if_true, true_and]
    · simp only [h, if_false, false_and]; exact (sm_zero fun _ _ => rfl).symm
end Go.Proofs.YtpeefmbdhkfhmaaGreatDoor
/- Layer 8, no program in it: the names above one (upsK, ups, upsK_take as in the chart seat's PthN: a ported PthN leaves them out and imports this). -/
namespace Go.Proofs.YtpeefmbdhkfhmaaGreatDoor
def upsK (l : List UInt8) : Nat → List (List UInt8)
  | 0 => []
  | i + 1 => if l[i]? = some 58 then l.take i :: upsK l i else upsK l i
def ups (l : List UInt8) : List (List UInt8) := upsK l l.length
theorem upsK_take (l : List UInt8) (j : Nat) : ∀ i, i ≤ j → upsK (l.take j) i = upsK l i
  | 0, _ => rfl
  | i + 1, h => by
    have e1 : (l.take j)[i]? = l[i]? := List.getElem?_take_of_lt (by omega)
    have e2 : (l.take j).take i = l.take i := by rw [List.take_take]; congr 1; omega
    rw [upsK, upsK, e1, e2, upsK_take l j i (by omega)]
theorem upsK_head {l : List UInt8} : ∀ {i p t}, upsK l i = p :: t → ∃ j, j < i ∧ l[j]? = some 58 ∧ (∀ k, j < k → k < i → l[k]? ≠ some 58) ∧ p = l.take j ∧ t = upsK l j
  | 0, p, t, h => by simp [upsK] at h
  | i + 1, p, t, h => by
    rw [upsK] at h
    by_cases e : l[i]? = some 58
    · rw [if_pos e] at h
      injection h with h1 h2
      exact ⟨i, by omega, e, fun k a b => by omega, h1.symm, h2.symm⟩
    · rw [if_neg e] at h
      obtain ⟨j, a, b, c, d, f⟩ := upsK_head h
      refine ⟨j, by omega, b, fun k hk hi => ?_, d, f⟩
      by_cases ek : k = i
      · subst ek; exact e
      · exact c k hk (by omega)
theorem mem_upsK {l q : List UInt8} : ∀ {i}, q ∈ upsK l i ↔ ∃ j, j < i ∧ l[j]? = some 58 ∧ q = l.take j
  | 0 => by simp [upsK]
  | i + 1 => by
    rw [upsK]
    by_cases e : l[i]? = some 58
    · rw [if_pos e, List.mem_cons, mem_upsK]
      refine ⟨fun h => h.elim (fun h => ⟨i, by omega, e, h⟩) (fun ⟨j, a, b⟩ => ⟨j, by omega, b⟩), fun ⟨j, a, b, c⟩ => ?_⟩
      by_cases ej : j = i
      · subst ej; exact .inl c
      · exact .inr ⟨j, by omega, b, c⟩
    · rw [if_neg e, mem_upsK]
      refine ⟨fun ⟨j, a, b⟩ => ⟨j, by omega, b⟩, fun ⟨j, a, b, c⟩ => ⟨j, ?_, b, c⟩⟩
      by_cases ej : j = i
      · subst ej; exact absurd b e
      · omega
theorem lt_of_colon {l : List UInt8} {j : Nat} (h : l[j]? = some 58) : j < l.length := (List.getElem?_eq_some_iff.1 h).1
theorem mem_ups {l q : List UInt8} : q ∈ ups l ↔ ∃ j, l[j]? = some 58 ∧ q = l.take j := by
  unfold ups
  rw [mem_upsK]
  exact ⟨fun ⟨j, _, b⟩ => ⟨j, b⟩, fun ⟨j, b⟩ => ⟨j, lt_of_colon b.1, b⟩⟩
theorem upsK_nodup (l : List UInt8) : ∀ i, (upsK l i).Nodup
  | 0 => by simp [upsK]
  | i + 1 => by
    rw [upsK]
    by_cases e : l[i]? = some 58
    · rw [if_pos e, List.nodup_cons]
      refine ⟨fun h => ?_, upsK_nodup l i⟩
      obtain ⟨j, hj, _, q⟩ := mem_upsK.1 h
      have := congrArg List.length q
      have := lt_of_colon e
      simp only [List.length_take] at *
      omega
    · rw [if_neg e]; exact upsK_nodup l i
/-- an account's names upwards are such -/
theorem ups_is : Ups ups where
  step := fun x p t h => by
    obtain ⟨j, a, b, _, rfl, rfl⟩ := upsK_head h
    have hl : (x.take j).length = j := by rw [List.length_take]; omega
    rw [ups, hl, upsK_take _ _ _ (Nat.le_refl _)]
  once := fun x => by
    rw [List.nodup_cons]
    refine ⟨fun h => ?_, upsK_nodup _ _⟩
    obtain ⟨j, b, q⟩ := mem_ups.1 h
    have h1 := congrArg List.length q
    have h2 := lt_of_colon b
    rw [List.length_take] at h1
    omega
/-- below: the bytes of the one, a colon, and more -/
theorem below_iff (a b : List UInt8) : b ∈ ups a ↔ b.length < a.length ∧ a.take b.length = b ∧ a[b.length]? = some 58 := by
  rw [mem_ups]
  constructor
  · rintro ⟨j, h, rfl⟩
    have := lt_of_colon h
    have hl : (a.take j).length = j := by rw [List.length_take]; omega
    rw [hl]
    exact ⟨this, rfl, h⟩
  · rintro ⟨_, h, c⟩
    exact ⟨b.length, c, h.symm⟩
/-- right below: and no colon behind -/
theorem right_iff (a b : List UInt8) : (ups a).head? = some b ↔ b ∈ ups a ∧ (58 : UInt8) ∉ a.drop (b.length + 1) := by
  constructor
  · intro h
    match e : ups a with
    | [] => simp [e] at h
    | p :: t =>
      rw [e] at h
      simp only [List.head?_cons, Option.some.injEq] at h
      subst h
      obtain ⟨j, hj, c, hn, q, _⟩ := upsK_head e
      have hl : p.length = j := by rw [q, List.length_take]; omega
      refine ⟨by simp, fun hm => ?_⟩
      obtain ⟨k, hk⟩ := List.getElem?_of_mem hm
      rw [List.getElem?_drop, hl] at hk
      exact hn _ (by omega) (lt_of_colon hk) hk
  · rintro ⟨hb, hn⟩
    match e : ups a with
    | [] => simp [e] at hb
    | p :: t =>
      obtain ⟨j, hj, c, hno, q, _⟩ := upsK_head e
      obtain ⟨b1, b2, b3⟩ := (below_iff a b).1 hb
      have hbj : b.length = j := by
        rcases Nat.lt_trichotomy b.length j with h | h | h
        · exfalso
          refine hn (List.mem_of_getElem? (i := j - (b.length + 1)) ?_)
          rw [List.getElem?_drop, ← c]
          congr 1; omega
        · exact h
        · exact absurd b3 (hno _ h b1)
      rw [List.head?_cons, q, ← b2, hbj]
/-- a root: no colon -/
theorem root_iff (a : List UInt8) : ups a = [] ↔ (58 : UInt8) ∉ a := by
  rw [List.eq_nil_iff_forall_not_mem]
  constructor
  · intro h hm
    obtain ⟨k, hk⟩ := List.getElem?_of_mem hm
    exact h _ (mem_ups.2 ⟨k, hk, rfl⟩)
  · intro h q hq
    obtain ⟨j, b, _⟩ := mem_ups.1 hq
    exact h (List.mem_of_getElem? b)
end Go.Proofs.YtpeefmbdhkfhmaaGreatDoor
/- An account's path: the names above one. No program in it. -/
namespace Go.Proofs.YtpeefmbdhkfhmaaGreatDoor
open Go
set_option linter.unusedVariables false
theorem spl_append (a b : List UInt8) : spl (a ++ 58 :: b) = spl a ++ spl b := by
  induction a with
  | nil => simp [spl]
  | cons c a ih =>
    rw [List.cons_append]
    by_cases hc : c = 58
    · rw [spl, if_pos hc, ih, spl, if_pos hc]
      rfl
    · obtain ⟨h, t, e⟩ := spl_ne a
      rw [spl_cons hc e]
      have e2 : spl (a ++ 58 :: b) = h :: (t ++ spl b) := by rw [ih, e]; rfl
      rw [spl_cons hc e2]
      rfl
theorem name_above {a b : List UInt8} (h : nameL (a ++ 58 :: b) = true) : nameL a = true := by
  unfold nameL at h ⊢
  rw [spl_append, List.all_append, List.count_append] at h
  simp only [Bool.and_eq_true, decide_eq_true_eq] at h ⊢
  exact ⟨by have := h.1; omega, h.2.1⟩
/-- the names above one, among its first bytes, the longest first -/
def pathL (l : List UInt8) : List (List UInt8) := if nameL l = true then l :: ups l else []
theorem upsK_skip (l : List UInt8) (i : Nat) : ∀ n, i ≤ n → (∀ k, i ≤ k → k < n → l[k]? ≠ some 58) → upsK l n = upsK l i
  | 0, h, _ => by have : i = 0 := by omega
                  subst this; rfl
  | n + 1, h, hk => by
    by_cases e : i = n + 1
    · subst e; rfl
    · rw [upsK, if_neg (hk n (by omega) (by omega))]
      exact upsK_skip l i n (by omega) (fun k h1 h2 => hk k h1 (by omega))
theorem upsK_len (l : List UInt8) : ∀ i, i ≤ l.length → (upsK l i).length = (l.take i).count 58
  | 0, _ => by simp [upsK]
  | i + 1, h => by
    have hi : i < l.length := by omega
    have e : l.take (i + 1) = l.take i ++ [l[i]] := by rw [List.take_append_getElem]
    have e2 : l[i]? = some l[i] := List.getElem?_eq_getElem hi
    rw [upsK, e, List.count_append, e2]
    by_cases hc : l[i] = 58
    · rw [hc, if_pos rfl, List.length_cons, upsK_len l i (by omega)]
      simp
    · rw [if_neg (by simpa using hc), upsK_len l i (by omega)]
      have : [l[i]].count 58 = 0 := by rw [List.count_eq_zero]; simpa using fun e => hc e.symm
      omega
theorem path_len (l : List UInt8) : (pathL l).length ≤ 6 := by
  unfold pathL
  by_cases h : nameL l = true
  · rw [if_pos h, List.length_cons, ups, upsK_len l _ (Nat.le_refl _), List.take_length]
    unfold nameL at h
    simp only [Bool.and_eq_true, decide_eq_true_eq] at h
    omega
  · rw [if_neg h]; simp
theorem ups_none (l : List UInt8) (h : l.contains 58 = false) : ups l = [] := by
  rw [ups, upsK_skip l 0 l.length (by omega) (fun k _ hk e => ?_)]
  · rfl
  · have : (58 : UInt8) ∈ l := List.mem_of_getElem? e
    rw [List.contains_iff_mem.2 this] at h
    cases h
/-- the last colon -/
theorem ups_some (s : ByteArray) (h : s.data.toList.contains 58 = true) : ∃ j : Nat, j < s.size ∧ Lib.lastIndexByte s 58 = (j : Int) ∧ ups s.data.toList = s.data.toList.take j :: ups (s.data.toList.take j) ∧ (nameL s.data.toList = true → nameL (s.data.toList.take j) = true) := by
  have hb : ∀ j, j < s.size → s.data.toList[j]? = some s.data[j]! := fun j hj => by
    have hj' : j < s.data.size := hj
    rw [Array.getElem?_toList, Array.getElem?_eq_getElem hj', getElem!_pos s.data j hj']
  rcases Lib.lastIndexByte_spec s 58 with ⟨_, hno⟩ | ⟨j, hj, he, hc, hnb⟩
  · exfalso
    have hm : (58 : UInt8) ∈ s.data.toList := List.contains_iff_mem.1 h
    obtain ⟨k, hk⟩ := List.getElem?_of_mem hm
    have hks : k < s.size := by
      have := (List.getElem?_eq_some_iff.1 hk).1
      simpa using this
    rw [hb k hks] at hk
    injection hk with hk
    exact hno k hks (by rw [hk]; rfl)
  · have hsz : s.data.toList.length = s.size := by simp
    have h58 : s.data[j]! = 58 := by
      apply UInt8.toNat_inj.1
      have : (s.data[j]!).toNat = 58 := by exact_mod_cast hc
      exact this
    have hj58 : s.data.toList[j]? = some 58 := by rw [hb j hj, h58]
    have hle : (s.data.toList.take j).length = j := by rw [List.length_take, hsz]; omega
    refine ⟨j, hj, he, ?_, fun hn => ?_⟩
    · rw [ups, upsK_skip s.data.toList (j + 1) s.data.toList.length (by omega) (fun k h1 h2 e => ?_), upsK, if_pos hj58, ups, hle, upsK_take _ _ _ (Nat.le_refl _)]
      rw [hsz] at h2
      rw [hb k h2] at e
      injection e with e
      exact hnb k (by omega) h2 (by rw [e]; rfl)
    · have e : s.data.toList = s.data.toList.take j ++ 58 :: s.data.toList.drop (j + 1) := by
        have h1 := List.take_append_drop j s.data.toList
        have h2 : s.data.toList.drop j = 58 :: s.data.toList.drop (j + 1) := by
          have hjl : j < s.data.toList.length := by omega
          rw [List.drop_eq_getElem_cons hjl]
          congr 1
          rw [List.getElem?_eq_getElem hjl] at hj58
          injection hj58
        rw [← h2, h1]
      rw [e] at hn
      exact name_above hn
end Go.Proofs.YtpeefmbdhkfhmaaGreatDoor
/- Rows of texts. -/
namespace Go.Proofs.YtpeefmbdhkfhmaaGreatDoor
open Go Go.ChangeShapes Go.WideShapes Go.ChangeAt Go.RowKit
set_option linter.unusedVariables false
theorem setCell_drewN (w : World) (n : Nat) (a : Addr) (v : Value) : (w.drewN n).setCell a v = (w.setCell a v).drewN n := rfl
theorem alloc_drewN (w : World) (n : Nat) (o : Obj) : (w.drewN n).alloc o = (w.alloc o).drewN n := rfl
theorem bal {w W : World} (h : Below w.heap.size w W) (o : Obj) : Below w.heap.size w (W.alloc o) := h.alloc h.size o
theorem below_drewN {B : Nat} {a w : World} (h : Below B a w) (n : Nat) : Below B a (w.drewN n) := ⟨h.os, h.tape, h.output, h.size, h.block⟩
theorem step_below {B : Nat} {a W w1 : World} (h : Below B a W) (hB : B ≤ a.heap.size) (hb : Below W.heap.size W w1) : Below B a w1 := h.trans (hb.mono (Nat.le_trans hB h.size))
theorem keep1 {W w1 : World} (hb : Below W.heap.size W w1) {b o : Nat} {v : Value} (h : b < W.heap.size) (hv : W.cell? ⟨b, o, none⟩ = some v) : w1.cell? ⟨b, o, none⟩ = some v := (hb.cell (p := ⟨b, o, none⟩) h).trans hv
theorem keepF {W w1 : World} (hb : Below W.heap.size W w1) {b o : Nat} {v : Bool} (h : b < W.heap.size) (hv : W.frozen? ⟨b, o, none⟩ = v) : w1.frozen? ⟨b, o, none⟩ = v := (hb.frozen (p := ⟨b, o, none⟩) h).trans hv
theorem drew_two (w : World) (m n : Nat) : (w.drewN m).drewN n = w.drewN (m + n) := World.drewN_drewN w m n
theorem info9 : (Tryz.prog.info? 9).map (fun i => (i.zero, i.size, i.bytes)) = some (some (.string ⟨#[]⟩), 1, 16) := by kernel_rfl
theorem info_parts {t : TypeId} {z : Value} {a b : Nat} (h : (Tryz.prog.info? t).map (fun i => (i.zero, i.size, i.bytes)) = some (some z, a, b)) : ∃ i, Tryz.prog.info? t = some i ∧ i.zero = some z ∧ i.size = a ∧ i.bytes = b := by
  obtain ⟨i, hi, hz⟩ := Option.map_eq_some_iff.1 h
  simp only [Prod.mk.injEq] at hz
  exact ⟨i, hi, hz.1, hz.2.1, hz.2.2⟩
theorem own_open {w : World} {base size n : Nat} {e : TypeId} {v : Value} {xs : List Value} (h : w.ownsRow base e size v n xs) (hn : 0 < n) : ∃ g c, v = .slice (some ⟨g, 0, none⟩) n c := by
  rcases h.2 with ⟨_, h0⟩ | ⟨g, cap, cur, rfl, _⟩
  · omega
  · exact ⟨g, cap, rfl⟩
theorem cell_one_new (w : World) (v : Value) (t : TypeId) : ∀ j u, ([v] : List Value)[j]? = some u → (w.alloc (.cells #[v] t)).cell? ((⟨w.heap.size, 0, none⟩ : Addr).add j) = some u := by
  intro j u hj
  rw [Addr.add_mid, Nat.zero_add, World.cell?_alloc_mark]
  simpa using hj
theorem one_one (s : ByteArray) : ∀ u ∈ ([.string s] : List Value), u.oneCell' = true := by
  intro u hu
  simp at hu
  subst hu
  rfl
/-- texts as cells -/
def scells (f : Nat → ByteArray) (n : Nat) : List Value := (List.range n).map fun i => .string (f i)
theorem scells_len (f : Nat → ByteArray) (n : Nat) : (scells f n).length = n := by simp [scells]
theorem scells_succ (f : Nat → ByteArray) (n : Nat) : scells f (n + 1) = scells f n ++ [.string (f n)] := by simp [scells, List.range_succ]
theorem scells_get (f : Nat → ByteArray) (n j : Nat) (h : j < n) : (scells f n)[j]? = some (.string (f j)) := by simp [scells, h]
theorem scells_get' {f : Nat → ByteArray} {n j : Nat} {u : Value} (h : (scells f n)[j]? = some u) : j < n ∧ u = .string (f j) := by
  by_cases hj : j < n
  · rw [scells_get f n j hj] at h
    exact ⟨hj, (Option.some.inj h).symm⟩
  · rw [List.getElem?_eq_none (by rw [scells_len]; omega)] at h
    cases h
theorem scells_one (f : Nat → ByteArray) (n : Nat) : ∀ u ∈ scells f n, u.oneCell' = true := by
  intro u hu
  simp only [scells, List.mem_map] at hu
  obtain ⟨i, _, rfl⟩ := hu
  rfl
theorem scells_ext {f g : Nat → ByteArray} (n : Nat) (h : ∀ i, i < n → f i = g i) : scells f n = scells g n := by
  induction n with
  | zero => rfl
  | succ n ih => rw [scells_succ, scells_succ, ih (fun i hi => h i (by omega)), h n (by omega)]
/-- one behind the other -/
def cat {α : Type} (f : Nat → α) (n : Nat) (g : Nat → α) : Nat → α := fun i => if i < n then f i else g (i - n)
theorem cat_lt {α : Type} {f g : Nat → α} {n i : Nat} (h : i < n) : cat f n g i = f i := by simp [cat, h]
theorem cat_ge {α : Type} {f g : Nat → α} {n : Nat} (i : Nat) : cat f n g (n + i) = g i := by
  have : ¬ n + i < n := by omega
  simp only [cat, if_neg this, Nat.add_sub_cancel_left]
/-- a list of texts as a row -/
def fOf (l : List (List UInt8)) : Nat → ByteArray := fun i => ⟨(l.getD i []).toArray⟩
theorem scells_list (l : List (List UInt8)) : scells (fOf l) l.length = l.map fun x => .string ⟨x.toArray⟩ := by
  apply List.ext_getElem?
  intro j
  by_cases hj : j < l.length
  · rw [scells_get _ _ _ hj]
    simp [fOf, hj, List.getD]
  · rw [List.getElem?_eq_none (by rw [scells_len]; omega), List.getElem?_eq_none (by simp; omega)]
/-- a slice that shows so many texts -/
def TLies (f : Nat → ByteArray) (v : Value) (n : Nat) (W : World) : Prop :=
  (n = 0 ∧ v = .slice none 0 0) ∨ ∃ b cap, v = .slice (some ⟨b, 0, none⟩) n cap ∧ b < W.heap.size ∧ ∀ k, k < n → W.cell? ⟨b, k, none⟩ = some (.string (f k))
theorem TLies.below {f : Nat → ByteArray} {v : Value} {n : Nat} {w w' : World} (h : TLies f v n w) (hb : Below w.heap.size w w') : TLies f v n w' := by
  rcases h with h | ⟨b, cap, h1, h2, h3⟩
  · exact .inl h
  · exact .inr ⟨b, cap, h1, Nat.lt_of_lt_of_le h2 hb.size, fun k hk => keep1 hb h2 (h3 k hk)⟩
theorem TLies.of_own {B n : Nat} {f : Nat → ByteArray} {v : Value} {w : World} (h : w.ownsRow B 9 1 v n (scells f n)) : TLies f v n w := by
  rcases h.2 with ⟨h1, h2⟩ | ⟨g, cap, cur, rfl, hb, _⟩
  · exact .inl ⟨h2, h1⟩
  · refine .inr ⟨g, cap, rfl, (h.lt g rfl).2, fun k hk => ?_⟩
    rw [h.cellAt k (by omega)]
    exact scells_get f n k hk
theorem grown_of_below {w w' : World} (h : Below w.heap.size w w') : w.grownBy w' none := ⟨h.os, h.tape, h.output, h.size, fun k hk _ => h.block k hk⟩
theorem below_of_grown {w w' : World} (h : w.grownBy w' none) : Below w.heap.size w w' := ⟨h.os, h.tape, h.output, h.size, fun k hk => h.block k hk (by simp)⟩
theorem own_below {w w' : World} {base size n : Nat} {e : TypeId} {v : Value} {xs : List Value} (h : w.ownsRow base e size v n xs) (hb : Below w.heap.size w w') : w'.ownsRow base e size v n xs :=
  h.kept (grown_of_below hb) (by cases hv : v.ownBlock <;> simp)
end Go.Proofs.YtpeefmbdhkfhmaaGreatDoor
