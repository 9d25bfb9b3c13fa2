/- Layer 8, no program in it: rows that come to others; the names that a state tells; lists that rise. -/
import Derived.Test.YtgohddimnphbkaaDoorUpsN
namespace Go.Proofs.YtgohddimnphbkaaDoor
set_option linter.unusedSectionVars false
/-- two rising lists of the same members are one -/
theorem rise_ext {β : Type} {lt : β → β → Prop} (hi : ∀ x, ¬ lt x x) (ht : ∀ x y z, lt x y → lt y z → lt x z) : ∀ {a b : List β}, a.Pairwise lt → b.Pairwise lt → (∀ x, x ∈ a ↔ x ∈ b) → a = b
  | [], [], _, _, _ => rfl
  | [], y :: b, _, _, h => absurd ((h y).2 (by simp)) (by simp)
  | x :: a, [], _, _, h => absurd ((h x).1 (by simp)) (by simp)
  | x :: a, y :: b, ha, hb, h => by
    rw [List.pairwise_cons] at ha hb
    have e : x = y := by
      rcases List.mem_cons.1 ((h x).1 (by simp)) with e | e
      · exact e
      · rcases List.mem_cons.1 ((h y).2 (by simp)) with f | f
        · exact f.symm
        · exact absurd (ht _ _ _ (ha.1 y f) (hb.1 x e)) (hi x)
    subst e
    congr 1
    refine rise_ext hi ht ha.2 hb.2 fun z => ⟨fun hz => ?_, fun hz => ?_⟩
    · rcases List.mem_cons.1 ((h z).1 (by simp [hz])) with f | f
      · subst f; exact absurd (ha.1 _ hz) (hi _)
      · exact f
    · rcases List.mem_cons.1 ((h z).2 (by simp [hz])) with f | f
      · subst f; exact absurd (hb.1 _ hz) (hi _)
      · exact f
theorem rise_nodup {β : Type} {lt : β → β → Prop} (hi : ∀ x, ¬ lt x x) {a : List β} (h : a.Pairwise lt) : a.Nodup :=
  List.Pairwise.imp (S := fun x y => x ≠ y) (fun {x y} (hxy : lt x y) (e : x = y) => hi x (by rw [← e] at hxy; exact hxy)) h
/-- one drawn out of a list -/
theorem draw_perm {β : Type} (l : List β) (k : Nat) (h : k < l.length) : (l[k] :: (l.take k ++ l.drop (k + 1))).Perm l := by
  have e : l = l.take k ++ l[k] :: l.drop (k + 1) := by rw [← List.drop_eq_getElem_cons h, List.take_append_drop]
  refine List.Perm.trans ?_ (List.Perm.of_eq e.symm)
  exact (List.perm_middle (a := l[k]) (l₁ := l.take k) (l₂ := l.drop (k + 1))).symm
theorem sm_nonneg {β : Type} {f : β → Int} {a : List β} (h : ∀ x ∈ a, 0 ≤ f x) : 0 ≤ sm f a := by
  have := sm_le (f := fun _ => 0) (g := f) h
  rwa [sm_zero fun _ _ => rfl] at this
theorem sm_ge_one {β : Type} {f : β → Int} {a : List β} (h : ∀ x ∈ a, 0 ≤ f x) {x : β} (hx : x ∈ a) : f x ≤ sm f a := by
  induction a with
  | nil => simp at hx
  | cons y a ih =>
    have h1 := h y (by simp)
    have h2 := sm_nonneg (f := f) (a := a) fun z hz => h z (by simp [hz])
    simp only [sm]
    rcases List.mem_cons.1 hx with e | e
    · subst e; omega
    · have := ih (fun z hz => h z (by simp [hz])) e; omega
variable {α : Type} [DecidableEq α]
theorem own_le {L : Rws α} {K : List α} (hc : ∀ n, own L n ≠ 0 → n ∈ K) (n : α) : own L n ≤ deb L K := by
  by_cases h : own L n = 0
  · rw [h]; exact sm_nonneg fun _ _ => pos_nonneg _
  · refine Int.le_trans ?_ (sm_ge_one (f := fun n => pos (own L n)) (fun _ _ => pos_nonneg _) (hc n h))
    show own L n ≤ pos (own L n)
    unfold pos; split <;> omega
theorem own_ge {L : Rws α} {K : List α} (hc : ∀ n, own L n ≠ 0 → n ∈ K) (n : α) : -own L n ≤ cre L K := by
  by_cases h : own L n = 0
  · rw [h]; exact sm_nonneg fun _ _ => neg_nonneg _
  · refine Int.le_trans ?_ (sm_ge_one (f := fun n => neg (own L n)) (fun _ _ => neg_nonneg _) (hc n h))
    show -own L n ≤ neg (own L n)
    unfold neg; split <;> omega
theorem deb_nonneg (L : Rws α) (K : List α) : 0 ≤ deb L K := sm_nonneg fun _ _ => pos_nonneg _
theorem cre_nonneg (L : Rws α) (K : List α) : 0 ≤ cre L K := sm_nonneg fun _ _ => neg_nonneg _
/-- what a side becomes with rows: by the names of the rows alone -/
theorem side_more (f : Int → Int) (f0 : f 0 = 0) (L R : Rws α) {K J N : List α} (hK : K.Nodup) (hJ : J.Nodup) (hN : N.Nodup) (hc : ∀ n, own L n ≠ 0 → n ∈ K) (hd : ∀ n, own (L ++ R) n ≠ 0 → n ∈ J) (hn : ∀ r ∈ R, r.1 ∈ N) :
    sm (fun n => f (own (L ++ R) n)) J = sm (fun n => f (own L n)) K + sm (fun n => f (own (L ++ R) n) - f (own L n)) N := by
  have hA := nodup_nub (K ++ (J ++ N))
  have e1 : sm (fun n => f (own (L ++ R) n)) J = sm (fun n => f (own (L ++ R) n)) (nub (K ++ (J ++ N))) := by
    refine sm_same hJ hA fun n h => ⟨fun m => (mem_nub _ _).2 (by simp [m]), fun _ => hd n fun e => h (by simp only [e, f0])⟩
  have e2 : sm (fun n => f (own L n)) K = sm (fun n => f (own L n)) (nub (K ++ (J ++ N))) := by
    refine sm_same hK hA fun n h => ⟨fun m => (mem_nub _ _).2 (by simp [m]), fun _ => hc n fun e => h (by simp only [e, f0])⟩
  have e3 : sm (fun n => f (own (L ++ R) n) - f (own L n)) N = sm (fun n => f (own (L ++ R) n) - f (own L n)) (nub (K ++ (J ++ N))) := by
    refine sm_same hN hA fun n h => ⟨fun m => (mem_nub _ _).2 (by simp [m]), fun _ => ?_⟩
    refine Classical.byContradiction fun q => h ?_
    have : own R n = 0 := own_none fun r hr e => q (e ▸ hn r hr)
    simp only [own_append, this, Int.add_zero, Int.sub_self]
  rw [e1, e2, e3, sm_sub]; omega
theorem deb_more (L R : Rws α) {K J N : List α} (hK : K.Nodup) (hJ : J.Nodup) (hN : N.Nodup) (hc : ∀ n, own L n ≠ 0 → n ∈ K) (hd : ∀ n, own (L ++ R) n ≠ 0 → n ∈ J) (hn : ∀ r ∈ R, r.1 ∈ N) :
    deb (L ++ R) J = deb L K + sm (fun n => pos (own (L ++ R) n) - pos (own L n)) N := side_more pos rfl L R hK hJ hN hc hd hn
theorem cre_more (L R : Rws α) {K J N : List α} (hK : K.Nodup) (hJ : J.Nodup) (hN : N.Nodup) (hc : ∀ n, own L n ≠ 0 → n ∈ K) (hd : ∀ n, own (L ++ R) n ≠ 0 → n ∈ J) (hn : ∀ r ∈ R, r.1 ∈ N) :
    cre (L ++ R) J = cre L K + sm (fun n => neg (own (L ++ R) n) - neg (own L n)) N := side_more neg rfl L R hK hJ hN hc hd hn
/-- the names that a state tells: at or above one whose own balance is not 0 -/
def Held (up : α → List α) (L : Rws α) (n : α) : Prop := ∃ x, own L x ≠ 0 ∧ n ∈ x :: up x
theorem held_own (up : α → List α) {L M : Rws α} (h : ∀ n, own L n = own M n) (n : α) : Held up L n ↔ Held up M n :=
  ⟨fun ⟨x, a, b⟩ => ⟨x, by rw [← h x]; exact a, b⟩, fun ⟨x, a, b⟩ => ⟨x, by rw [h x]; exact a, b⟩⟩
/-- how often a name lies at or above one of a list, each of it once -/
theorem held_count (up : α → List α) {L : Rws α} {K : List α} (hK : ∀ n, n ∈ K ↔ own L n ≠ 0) (n : α) : sm (fun x => if n ∈ x :: up x then 1 else 0) K ≠ 0 ↔ Held up L n := by
  constructor
  · intro h
    refine Classical.byContradiction fun q => h (sm_zero fun x hx => ?_)
    rw [if_neg fun m => q ⟨x, (hK x).1 hx, m⟩]
  · rintro ⟨x, a, b⟩ h
    have := sm_ge_one (f := fun x => if n ∈ x :: up x then (1 : Int) else 0) (a := K) (fun y _ => by show (0 : Int) ≤ if _ then 1 else 0; split <;> omega) ((hK x).2 a)
    simp only [b, if_true] at this
    omega
/-- the rows that tell the own balances over again -/
theorem own_told (L : Rws α) {K : List α} (hK : K.Nodup) (hc : ∀ n, own L n ≠ 0 → n ∈ K) (n : α) : own (K.map fun m => (m, own L m)) n = own L n := by
  unfold own
  rw [sm_map]
  show sm (fun m => if m = n then own L m else 0) K = own L n
  rw [sm_congr (g := fun m => if m = n then own L n else 0) fun m _ => by by_cases e : m = n <;> simp [e], sm_one hK]
  by_cases h : n ∈ K
  · rw [if_pos h]
  · rw [if_neg h]; exact (Classical.byContradiction fun q => h (hc n fun e => q e.symm))
end Go.Proofs.YtgohddimnphbkaaDoor
