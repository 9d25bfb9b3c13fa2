/- aged: the order of open invoices, in plain words. -/
import Derived.Test.YtildpgfhahmgmaaDoorAgN
import Derived.Sort.Walk0
import Derived.Sort.Statements
import Derived.Shelf.SlSortCmp.WholeK
namespace Go.Proofs.YtildpgfhahmgmaaDoor
open Go Go.Sort
set_option linter.unusedVariables false
def cmpI (x y : Int) : Int := if x < y then -1 else if x > y then 1 else 0
def cmpS (x y : List UInt8) : Int := if x < y then -1 else if x = y then 0 else 1
def cmp3 (x y : Cl) : Int := if cmpI x.due y.due ≠ 0 then cmpI x.due y.due else if cmpI x.day y.day ≠ 0 then cmpI x.day y.day else cmpS x.key.data.toList y.key.data.toList
/-- comes ahead -/
def Lt3 (x y : Cl) : Prop := x.due < y.due ∨ (x.due = y.due ∧ (x.day < y.day ∨ (x.day = y.day ∧ x.key.data.toList < y.key.data.toList)))
theorem cmpI_neg (x y : Int) : cmpI x y < 0 ↔ x < y := by
  unfold cmpI
  by_cases h1 : x < y
  · simp [h1]
  · by_cases h2 : x > y <;> simp [h1, h2]
theorem cmpI_zero (x y : Int) : cmpI x y = 0 ↔ x = y := by
  unfold cmpI
  by_cases h1 : x < y
  · simp [h1]; omega
  · by_cases h2 : x > y
    · simp [h1, h2]; omega
    · simp [h1, h2]; omega
theorem slt_irrefl (x : List UInt8) : ¬ x < x := List.lt_irrefl x
theorem slt_trans {x y z : List UInt8} (h1 : x < y) (h2 : y < z) : x < z := List.lt_trans h1 h2
theorem slt_tri {x y : List UInt8} (h1 : ¬ x < y) (h2 : ¬ y < x) : x = y := by
  rw [List.not_lt] at h1 h2
  exact List.le_antisymm h2 h1
theorem cmpS_neg (x y : List UInt8) : cmpS x y < 0 ↔ x < y := by
  unfold cmpS
  by_cases h1 : x < y
  · simp [h1]
  · by_cases h2 : x = y
    · rw [if_neg h1, if_pos h2]; simp [h1]
    · rw [if_neg h1, if_neg h2]; simp [h1]
theorem cmp3_neg (x y : Cl) : cmp3 x y < 0 ↔ Lt3 x y := by
  unfold cmp3 Lt3
  by_cases h1 : x.due = y.due
  · rw [if_neg (fun h => h ((cmpI_zero _ _).2 h1))]
    by_cases h2 : x.day = y.day
    · rw [if_neg (fun h => h ((cmpI_zero _ _).2 h2)), cmpS_neg]
      constructor
      · exact fun h => .inr ⟨h1, .inr ⟨h2, h⟩⟩
      · rintro (h | ⟨_, h | ⟨_, h⟩⟩)
        · omega
        · omega
        · exact h
    · rw [if_pos (fun h => h2 ((cmpI_zero _ _).1 h)), cmpI_neg]
      constructor
      · exact fun h => .inr ⟨h1, .inl h⟩
      · rintro (h | ⟨_, h | ⟨h, _⟩⟩)
        · omega
        · exact h
        · exact absurd h h2
  · rw [if_pos (fun h => h1 ((cmpI_zero _ _).1 h)), cmpI_neg]
    constructor
    · exact fun h => .inl h
    · rintro (h | ⟨h, _⟩)
      · exact h
      · exact absurd h h1
theorem Lt3.irrefl (x : Cl) : ¬ Lt3 x x := by
  rintro (h | ⟨_, h | ⟨_, h⟩⟩)
  · omega
  · omega
  · exact slt_irrefl _ h
theorem Lt3.trans {x y z : Cl} (h : Lt3 x y) (k : Lt3 y z) : Lt3 x z := by
  rcases h with h | ⟨e1, h⟩
  · rcases k with k | ⟨e2, k⟩
    · exact .inl (by omega)
    · exact .inl (by omega)
  · rcases k with k | ⟨e2, k⟩
    · exact .inl (by omega)
    · refine .inr ⟨by omega, ?_⟩
      rcases h with h | ⟨e3, h⟩
      · rcases k with k | ⟨e4, k⟩
        · exact .inl (by omega)
        · exact .inl (by omega)
      · rcases k with k | ⟨e4, k⟩
        · exact .inl (by omega)
        · exact .inr ⟨by omega, slt_trans h k⟩
theorem Lt3.tri {x y : Cl} (h : ¬ Lt3 x y) (k : ¬ Lt3 y x) : x.due = y.due ∧ x.day = y.day ∧ x.key.data.toList = y.key.data.toList := by
  have h1 : x.due = y.due := by
    by_cases e : x.due < y.due
    · exact absurd (.inl e) h
    · by_cases e2 : y.due < x.due
      · exact absurd (.inl e2) k
      · omega
  have h2 : x.day = y.day := by
    by_cases e : x.day < y.day
    · exact absurd (.inr ⟨h1, .inl e⟩) h
    · by_cases e2 : y.day < x.day
      · exact absurd (.inr ⟨h1.symm, .inl e2⟩) k
      · omega
  exact ⟨h1, h2, slt_tri (fun e => h (.inr ⟨h1, .inr ⟨h2, e⟩⟩)) (fun e => k (.inr ⟨h1.symm, .inr ⟨h2.symm, e⟩⟩))⟩
theorem ltC (x y : Cl) : ltOf cmp3 x y = true ↔ Lt3 x y := by
  unfold ltOf
  rw [decide_eq_true_iff, cmp3_neg]
theorem ltC' (x y : Cl) : ltOf cmp3 x y = false ↔ ¬ Lt3 x y := by
  rw [← ltC]
  cases ltOf cmp3 x y <;> simp
theorem same3 {x y z : Cl} (h : x.due = y.due ∧ x.day = y.day ∧ x.key.data.toList = y.key.data.toList) : (Lt3 x z ↔ Lt3 y z) ∧ (Lt3 z x ↔ Lt3 z y) := by
  unfold Lt3
  rw [h.1, h.2.1, h.2.2]
  exact ⟨Iff.rfl, Iff.rfl⟩
theorem swoC : SWO (ltOf cmp3) where
  irrefl x := (ltC' x x).2 (Lt3.irrefl x)
  trans x y z h1 h2 := (ltC x z).2 (Lt3.trans ((ltC x y).1 h1) ((ltC y z).1 h2))
  ntrans x y z h1 h2 := (ltC' x z).2 fun h => by
    have h1 := (ltC' x y).1 h1
    have h2 := (ltC' y z).1 h2
    by_cases e1 : Lt3 y x
    · exact h2 (Lt3.trans e1 h)
    · have := Lt3.tri h1 e1
      exact h2 ((same3 (z := z) this).1.1 h)
/-- sorted lists of the same elements are the same, where no two are alike in the order -/
theorem sorted_unique : ∀ {l m : List Cl}, l.Perm m → (∀ x ∈ l, ∀ y ∈ l, ¬ Lt3 x y → ¬ Lt3 y x → x = y) → l.Pairwise (fun a b => ¬ Lt3 b a) → m.Pairwise (fun a b => ¬ Lt3 b a) → l = m
  | [], m, h, _, _, _ => by rw [List.nil_perm] at h; exact h.symm
  | x :: l, [], h, _, _, _ => by rw [List.perm_nil] at h; cases h
  | x :: l, y :: m, h, hu, h1, h2 => by
    rw [List.pairwise_cons] at h1 h2
    have hxy : x = y := by
      have hy : y ∈ x :: l := h.mem_iff.2 List.mem_cons_self
      have hx : x ∈ y :: m := h.mem_iff.1 List.mem_cons_self
      rcases List.mem_cons.1 hy with e | hy
      · exact e.symm
      · rcases List.mem_cons.1 hx with e | hx
        · exact e
        · exact hu x List.mem_cons_self y (List.mem_cons_of_mem _ hy) (h2.1 x hx) (h1.1 y hy)
    subst hxy
    rw [sorted_unique ((List.perm_cons x).1 h) (fun a ha b hb => hu a (List.mem_cons_of_mem _ ha) b (List.mem_cons_of_mem _ hb)) h1.2 h2.2]
end Go.Proofs.YtildpgfhahmgmaaDoor
