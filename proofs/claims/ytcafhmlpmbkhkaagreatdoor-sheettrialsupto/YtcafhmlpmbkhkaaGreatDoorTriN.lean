/- A trial balance: what it says. -/
import Derived.Test.YtcafhmlpmbkhkaaGreatDoorAmtA
namespace Go.Proofs.YtcafhmlpmbkhkaaGreatDoor
open Go Go.Shelf Go.ChangeShapes Go.WideShapes Go.ChangeAt Go.RowKit Go.Maps
set_option linter.unusedVariables false
set_option linter.unusedSimpArgs false
def debL (X : List Cm) : List Int := X.map (·.deb)
def creL (X : List Cm) : List Int := X.map (·.cre)
/-- a line of it -/
def rowT (d : Nat) (x : Cm) : List Tx := [x.acc.data.toList, unz x.deb d, unz x.cre d]
def hdT : List Tx := [[65, 99, 99, 111, 117, 110, 116], [68, 101, 98, 105, 116], [67, 114, 101, 100, 105, 116]]
def sumT (d : Nat) (a b : Int) : List Tx := [[83, 117, 109], txt a d, txt b d]
def rowsT (d : Nat) (X : List Cm) : List (List Tx) := [hdT] ++ X.map (rowT d) ++ [sumT d (sumL (debL X)).1 (sumL (creL X)).1]
def triT (d : Nat) (X : List Cm) : Tx := gridT (rgt [0, 1, 1]) (rowsT d X)
/-- why there is none -/
def errT (dg : Int) (X : List Cm) : Int := if dg < 0 ∨ 6 < dg then 1 else if fstM faultM X ≠ 0 then fstM faultM X else orE (sumL (debL X)).2 (sumL (creL X)).2
def ansT (dg : Int) (X : List Cm) : Tx × Int := if errT dg X = 0 then (triT dg.toNat X, 0) else ([], errT dg X)
def TriOut (w : World) (a : Tx × Int) (e : Ending) (w' : World) : Prop := e = .returned (.tuple #[.string (txB a.1), .int .i64 a.2]) ∧ Below w.heap.size w w'
/-- a column that may come in -/
structure CmOk (x : Cm) : Prop where
  acc : x.acc.size < 4611686018427387904
  deb : -9223372036854775808 ≤ x.deb ∧ x.deb ≤ 9223372036854775807
  cre : -9223372036854775808 ≤ x.cre ∧ x.cre ≤ 9223372036854775807
/-- one without fault -/
structure CmFine (x : Cm) : Prop where
  name : nameL x.acc.data.toList = true
  deb : 0 ≤ x.deb ∧ x.deb ≤ 9223372036854775807
  cre : 0 ≤ x.cre ∧ x.cre ≤ 9223372036854775807
theorem fine_of {x : Cm} (h : CmOk x) (hf : faultM x = 0) : CmFine x := by
  unfold faultM at hf
  by_cases h1 : nameL x.acc.data.toList = true
  · rw [if_pos h1] at hf
    by_cases h2 : x.deb < 0 ∨ x.cre < 0
    · rw [if_pos h2] at hf
      exact absurd hf (by decide)
    · have := h.deb; have := h.cre
      exact ⟨h1, by omega, by omega⟩
  · rw [if_neg h1] at hf
    exact absurd hf (by decide)
theorem fine_all {X : List Cm} (h : ∀ x ∈ X, CmOk x) (hf : fstM faultM X = 0) : ∀ x ∈ X, CmFine x := fun x hx => fine_of (h x hx) (fstM_zero hf x hx)
theorem sumL_fits {l : List Int} (h : (sumL l).2 = 0) : isA (sumL l).1 := by
  unfold sumL sumSpec at h ⊢
  by_cases h1 : anyMin (fun k => l.getD k 0) l.length = true
  · rw [if_pos h1] at h
    exact absurd h (by decide)
  · rw [if_neg h1] at h ⊢
    by_cases h2 : -9223372036854775808 < sumZ (fun k => l.getD k 0) l.length ∧ sumZ (fun k => l.getD k 0) l.length < 9223372036854775808
    · rw [if_pos h2]
      unfold isA
      constructor
      · have := h2.1; show _ ≤ sumZ _ _; omega
      · have := h2.2; show sumZ _ _ ≤ _; omega
    · rw [if_neg h2] at h
      exact absurd h (by decide)
theorem anyMin_no {l : List Int} (hl : ∀ z ∈ l, 0 ≤ z) : ∀ n, anyMin (fun k => l.getD k 0) n = false
  | 0 => rfl
  | n + 1 => by
    rw [anyMin, anyMin_no hl n, Bool.false_or, beq_eq_false_iff_ne]
    intro e
    simp only [List.getD_eq_getElem?_getD] at e
    rcases Nat.lt_or_ge n l.length with h | h
    · rw [List.getElem?_eq_getElem h] at e
      have := hl _ (List.getElem_mem h)
      simp at e
      omega
    · rw [List.getElem?_eq_none h] at e
      simp at e
/-- of amounts from 0 on the sum's error is that it is no amount -/
theorem sumL_err {l : List Int} (hl : ∀ z ∈ l, 0 ≤ z) : (sumL l).2 = 0 ∨ (sumL l).2 = 11 := by
  unfold sumL sumSpec
  rw [anyMin_no hl]
  simp only [Bool.false_eq_true, if_false]
  split
  · exact .inl rfl
  · exact .inr rfl
theorem debL_pos {X : List Cm} (h : ∀ x ∈ X, CmFine x) : ∀ z ∈ debL X, 0 ≤ z := fun z hz => by
  obtain ⟨x, hx, rfl⟩ := List.mem_map.1 hz
  exact (h x hx).deb.1
theorem creL_pos {X : List Cm} (h : ∀ x ∈ X, CmFine x) : ∀ z ∈ creL X, 0 ≤ z := fun z hz => by
  obtain ⟨x, hx, rfl⟩ := List.mem_map.1 hz
  exact (h x hx).cre.1
theorem txt_len (a : Int) (d : Nat) (hd : d ≤ 6) : (txt a d).length ≤ 100 := by
  unfold txt
  rw [List.length_append, List.length_append]
  have h1 := dmin_len 40 (a.natAbs / 10 ^ d) 1
  have h2 := dmin_len 40 (a.natAbs % 10 ^ d) d
  split <;> split <;> simp <;> omega
theorem unz_len (a : Int) (d : Nat) (hd : d ≤ 6) : (unz a d).length ≤ 100 := by
  unfold unz
  split
  · simp
  · exact txt_len a d hd
/-- the rows' cells are short, but for the names -/
theorem rowsT_cell {d : Nat} (hd : d ≤ 6) {X : List Cm} {M : Nat} (hM : 100 ≤ M) (h : ∀ x ∈ X, x.acc.size ≤ M) : ∀ r ∈ rowsT d X, ∀ c ∈ r, c.length ≤ M := by
  intro r hr c hc
  unfold rowsT at hr
  rw [List.mem_append, List.mem_append, List.mem_singleton, List.mem_singleton] at hr
  rcases hr with (rfl | hr) | rfl
  · simp [hdT] at hc
    rcases hc with rfl | rfl | rfl <;> simp <;> omega
  · obtain ⟨x, hx, rfl⟩ := List.mem_map.1 hr
    simp [rowT] at hc
    rcases hc with rfl | rfl | rfl
    · have := h x hx
      simpa using this
    · exact Nat.le_trans (unz_len _ _ hd) hM
    · exact Nat.le_trans (unz_len _ _ hd) hM
  · simp [sumT] at hc
    rcases hc with rfl | rfl | rfl
    · simp; omega
    · exact Nat.le_trans (txt_len _ _ hd) hM
    · exact Nat.le_trans (txt_len _ _ hd) hM
theorem rowsT_len (d : Nat) (X : List Cm) : ∀ r ∈ rowsT d X, r.length ≤ 3 := by
  intro r hr
  unfold rowsT at hr
  rw [List.mem_append, List.mem_append, List.mem_singleton, List.mem_singleton] at hr
  rcases hr with (rfl | hr) | rfl
  · exact Nat.le_refl _
  · obtain ⟨x, hx, rfl⟩ := List.mem_map.1 hr
    exact Nat.le_refl _
  · exact Nat.le_refl _
theorem rowsT_count (d : Nat) (X : List Cm) : (rowsT d X).length = X.length + 2 := by
  simp [rowsT]
end Go.Proofs.YtcafhmlpmbkhkaaGreatDoor
