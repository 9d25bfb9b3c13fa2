/- Plain numbers: what each weight gets of a total. Nothing of the program but the shares' order. -/
import Derived.Test.YtddpladmkmpoaaaSplE
namespace Go.Proofs.Ytddpladmkmpoaaa
open Go.Sort
set_option linter.unusedVariables false
instance (x y : Sh) : Decidable (lts x y) := by unfold lts; exact inferInstance
theorem lts_asym {x y : Sh} (h : lts x y) : ¬ lts y x := by unfold lts at *; omega
/-- how many of a list are ahead of x -/
def ahd (l : List Sh) (x : Sh) : Nat := l.countP (fun z => decide (lts z x))
theorem ahd_cons (y : Sh) (r : List Sh) (x : Sh) : ahd (y :: r) x = ahd r x + if lts y x then 1 else 0 := by
  unfold ahd
  rw [List.countP_cons]
  simp
theorem ahd_none : ∀ (l : List Sh) (x : Sh), (∀ y ∈ l, lts x y) → ahd l x = 0
  | [], x, _ => rfl
  | y :: r, x, h => by
    rw [ahd_cons, ahd_none r x (fun z hz => h z (List.mem_cons_of_mem _ hz)), if_neg (lts_asym (h y (List.mem_cons_self ..)))]
theorem ahd_at : ∀ (l : List Sh), l.Pairwise lts → ∀ j (hj : j < l.length), ahd l l[j] = j
  | [], _, j, hj => by simp at hj
  | y :: r, h, j, hj => by
    rw [List.pairwise_cons] at h
    cases j with
    | zero =>
      show ahd (y :: r) y = 0
      rw [ahd_cons, ahd_none r y h.1, if_neg (lts_irr y)]
    | succ j =>
      have hj' : j < r.length := by simpa using hj
      show ahd (y :: r) r[j] = j + 1
      rw [ahd_cons, ahd_at r h.2 j hj', if_pos (h.1 _ (List.getElem_mem hj'))]
/-- the shares of all weights, as a list -/
def allS (T S : Nat) (zs : Nat → Int) (n : Nat) : List Sh := (List.range n).map (shf T S zs)
/-- how many shares are ahead of that of i -/
def cnt (T S : Nat) (zs : Nat → Int) (n i : Nat) : Nat := ahd (allS T S zs n) (shf T S zs i)
def left (T S : Nat) (zs : Nat → Int) (n : Nat) : Nat := T - cumQ T S zs n
/-- what i gets of T -/
def part (T S : Nat) (zs : Nat → Int) (n i : Nat) : Nat := qf T S zs i + if cnt T S zs n i < left T S zs n then 1 else 0
section
variable {T S n : Nat} {zs : Nat → Int} {c : Array Sh}
theorem mk_list (f : Nat → Sh) : ((mkA n n f).extract 0 n).toList = (List.range n).map f := by
  apply List.ext_getElem
  · simp [mkA]
  · intro i h1 h2
    have hi : i < n := by simpa using h2
    have g := mkA_full f hi
    rw [getElem!_pos _ i (by rw [mkA_size]; exact hi)] at g
    simp only [Array.getElem_toList, Array.getElem_extract, List.getElem_map, List.getElem_range, Nat.zero_add]
    exact g
theorem Ord.lperm (h : Ord T S zs n c) : (c.extract 0 n).toList.Perm (allS T S zs n) := by
  have := h.perm.2.2
  rw [mk_list] at this
  exact this
theorem Ord.llen (h : Ord T S zs n c) : (c.extract 0 n).toList.length = n := by simp [h.size]
theorem Ord.lget (h : Ord T S zs n c) {j : Nat} (hj : j < n) : (c.extract 0 n).toList[j]'(by rw [h.llen]; exact hj) = c[j]! := by
  rw [getElem!_pos c j (by rw [h.size]; exact hj)]
  simp
theorem Ord.lsrt (h : Ord T S zs n c) : (c.extract 0 n).toList.Pairwise lts := by
  rw [List.pairwise_iff_getElem]
  intro i j hi hj hij
  have hj' : j < n := by rw [h.llen] at hj; exact hj
  rw [h.lget (show i < n by omega), h.lget hj']
  exact h.srt i j (Nat.zero_le _) hij hj'
/-- the place in the order is the number of those ahead -/
theorem Ord.cnt (h : Ord T S zs n c) {i j : Nat} (hj : j < n) (e : c[j]! = shf T S zs i) : cnt T S zs n i = j := by
  have h1 := ahd_at _ h.lsrt j (by rw [h.llen]; exact hj)
  rw [h.lget hj, e] at h1
  unfold Go.Proofs.Ytddpladmkmpoaaa.cnt
  rw [← h1]
  unfold ahd
  exact (h.lperm.countP_eq _).symm
/-- the parts' cells, place by place -/
theorem Lay.at {neg : Bool} {pb : Nat} {g : Nat → Int} {wr : Go.World} (L : Lay T S zs n neg c pb n g wr) (h : Ord T S zs n c) {i : Nat} (hi : i < n) : g i = if neg then -(part T S zs n i : Int) else (part T S zs n i : Int) := by
  obtain ⟨j, hj, e⟩ := h.sur hi
  have hc := h.cnt hj e
  have hd := L.done j hj
  rw [e] at hd
  have ep : ((shf T S zs i).p).toNat = i := by show ((i : Int)).toNat = i; omega
  rw [ep] at hd
  rw [hd]
  unfold gets part left
  rw [hc, e]
  have eq : (shf T S zs i).q = (qf T S zs i : Int) := rfl
  rw [eq]
  cases neg <;> by_cases hl : j < T - cumQ T S zs n <;> simp [hl]
end
end Go.Proofs.Ytddpladmkmpoaaa
