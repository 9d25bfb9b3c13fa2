/- The region that divides (ref.go:263): eleven operations are left once its moves and loads are taken; what holds at each state. -/
import Derived.Test.YtddpladmkmpoaaaSprI
import Derived.Test.YtddpladmkmpoaaaSprB
namespace Go.Proofs.Ytddpladmkmpoaaa
open Go Go.ChangeShapes Go.WideShapes Go.ChangeAt Go.RowKit
set_option linter.unusedVariables false
def lst (c1 c6 c7 c9 c10 c11 c12 A B s t : Bool) : Array Bool := #[true, c1, true, true, true, true, c6, c7, true, c9, c10, c11, c12, A, B, s, t]
def val (c1 c6 c7 c9 c10 c11 c12 A B s t : Bool) : Bool := (!c6 || c1) && (!c7 || c6) && (!c9 || c7) && (!c10 || c9) && (!c11 || c10) && (!c12 || c10) && (!s || c11 && A && B) && (!t || s && c12)
def cond (c1 c6 c7 c9 c10 c11 c12 A B s t : Bool) (i : Nat) : Bool :=
  (i == 1 && !c1) || (i == 6 && c1 && !c6) || (i == 7 && c6 && !c7) || (i == 9 && c7 && !c9) || (i == 10 && c9 && !c10) || (i == 11 && c10 && !c11) || (i == 12 && c10 && !c12) || (i == 13 && !A) || (i == 14 && !B) || (i == 15 && c11 && A && B && !s) || (i == 16 && s && c12 && !t)
def all1 (p : Bool → Bool) : Bool := p true && p false
theorem all1_at {p : Bool → Bool} (h : all1 p = true) (b : Bool) : p b = true := by
  unfold all1 at h
  rw [Bool.and_eq_true] at h
  cases b
  · exact h.2
  · exact h.1
/-- for all eleven -/
def all11 (p : Bool → Bool → Bool → Bool → Bool → Bool → Bool → Bool → Bool → Bool → Bool → Bool) : Bool :=
  all1 fun c1 => all1 fun c6 => all1 fun c7 => all1 fun c9 => all1 fun c10 => all1 fun c11 => all1 fun c12 => all1 fun A => all1 fun B => all1 fun s => all1 fun t => p c1 c6 c7 c9 c10 c11 c12 A B s t
theorem all11_at {p : Bool → Bool → Bool → Bool → Bool → Bool → Bool → Bool → Bool → Bool → Bool → Bool} (h : all11 p = true) (c1 c6 c7 c9 c10 c11 c12 A B s t : Bool) : p c1 c6 c7 c9 c10 c11 c12 A B s t = true :=
  all1_at (all1_at (all1_at (all1_at (all1_at (all1_at (all1_at (all1_at (all1_at (all1_at (all1_at h c1) c6) c7) c9) c10) c11) c12) A) B) s) t
theorem imp_of {a b : Bool} (h : (!a || b) = true) (ha : a = true) : b = true := by subst ha; simpa using h
theorem vl0 {c6 c7 c9 c10 c11 c12 A B s t : Bool} (hv : val false c6 c7 c9 c10 c11 c12 A B s t = true) : c6 = false ∧ c7 = false ∧ c9 = false ∧ c10 = false ∧ c11 = false ∧ c12 = false ∧ s = false ∧ t = false := by
  unfold val at hv
  rw [Bool.and_eq_true, Bool.and_eq_true, Bool.and_eq_true, Bool.and_eq_true, Bool.and_eq_true, Bool.and_eq_true, Bool.and_eq_true] at hv
  obtain ⟨⟨⟨⟨⟨⟨⟨a1, a2⟩, a3⟩, a4⟩, a5⟩, a6⟩, a7⟩, a8⟩ := hv
  simp_all
theorem vl1 {c7 c9 c10 c11 c12 A B s t : Bool} (hv : val true false c7 c9 c10 c11 c12 A B s t = true) : c7 = false ∧ c9 = false ∧ c10 = false ∧ c11 = false ∧ c12 = false ∧ s = false ∧ t = false := by
  unfold val at hv
  rw [Bool.and_eq_true, Bool.and_eq_true, Bool.and_eq_true, Bool.and_eq_true, Bool.and_eq_true, Bool.and_eq_true, Bool.and_eq_true] at hv
  obtain ⟨⟨⟨⟨⟨⟨⟨a1, a2⟩, a3⟩, a4⟩, a5⟩, a6⟩, a7⟩, a8⟩ := hv
  simp_all
theorem vl2 {c1 c9 c10 c11 c12 A B s t : Bool} (hv : val c1 true false c9 c10 c11 c12 A B s t = true) : c1 = true ∧ c9 = false ∧ c10 = false ∧ c11 = false ∧ c12 = false ∧ s = false ∧ t = false := by
  unfold val at hv
  rw [Bool.and_eq_true, Bool.and_eq_true, Bool.and_eq_true, Bool.and_eq_true, Bool.and_eq_true, Bool.and_eq_true, Bool.and_eq_true] at hv
  obtain ⟨⟨⟨⟨⟨⟨⟨a1, a2⟩, a3⟩, a4⟩, a5⟩, a6⟩, a7⟩, a8⟩ := hv
  simp_all
theorem vl3 {c1 c6 c10 c11 c12 A B s t : Bool} (hv : val c1 c6 true false c10 c11 c12 A B s t = true) : c1 = true ∧ c6 = true ∧ c10 = false ∧ c11 = false ∧ c12 = false ∧ s = false ∧ t = false := by
  unfold val at hv
  rw [Bool.and_eq_true, Bool.and_eq_true, Bool.and_eq_true, Bool.and_eq_true, Bool.and_eq_true, Bool.and_eq_true, Bool.and_eq_true] at hv
  obtain ⟨⟨⟨⟨⟨⟨⟨a1, a2⟩, a3⟩, a4⟩, a5⟩, a6⟩, a7⟩, a8⟩ := hv
  simp_all
theorem vl4 {c1 c6 c7 c11 c12 A B s t : Bool} (hv : val c1 c6 c7 true false c11 c12 A B s t = true) : c1 = true ∧ c6 = true ∧ c7 = true ∧ c11 = false ∧ c12 = false ∧ s = false ∧ t = false := by
  unfold val at hv
  rw [Bool.and_eq_true, Bool.and_eq_true, Bool.and_eq_true, Bool.and_eq_true, Bool.and_eq_true, Bool.and_eq_true, Bool.and_eq_true] at hv
  obtain ⟨⟨⟨⟨⟨⟨⟨a1, a2⟩, a3⟩, a4⟩, a5⟩, a6⟩, a7⟩, a8⟩ := hv
  simp_all
theorem vl5 {c1 c6 c7 c9 c12 A B s t : Bool} (hv : val c1 c6 c7 c9 true false c12 A B s t = true) : c1 = true ∧ c6 = true ∧ c7 = true ∧ c9 = true ∧ s = false ∧ t = false := by
  unfold val at hv
  rw [Bool.and_eq_true, Bool.and_eq_true, Bool.and_eq_true, Bool.and_eq_true, Bool.and_eq_true, Bool.and_eq_true, Bool.and_eq_true] at hv
  obtain ⟨⟨⟨⟨⟨⟨⟨a1, a2⟩, a3⟩, a4⟩, a5⟩, a6⟩, a7⟩, a8⟩ := hv
  simp_all
theorem vl6 {c1 c6 c7 c9 c11 A B s t : Bool} (hv : val c1 c6 c7 c9 true c11 false A B s t = true) : c1 = true ∧ c6 = true ∧ c7 = true ∧ c9 = true ∧ t = false := by
  unfold val at hv
  rw [Bool.and_eq_true, Bool.and_eq_true, Bool.and_eq_true, Bool.and_eq_true, Bool.and_eq_true, Bool.and_eq_true, Bool.and_eq_true] at hv
  obtain ⟨⟨⟨⟨⟨⟨⟨a1, a2⟩, a3⟩, a4⟩, a5⟩, a6⟩, a7⟩, a8⟩ := hv
  simp_all
theorem vl7 {c1 c6 c7 c9 c10 c11 c12 B s t : Bool} (hv : val c1 c6 c7 c9 c10 c11 c12 false B s t = true) : s = false ∧ t = false := by
  unfold val at hv
  rw [Bool.and_eq_true, Bool.and_eq_true, Bool.and_eq_true, Bool.and_eq_true, Bool.and_eq_true, Bool.and_eq_true, Bool.and_eq_true] at hv
  obtain ⟨⟨⟨⟨⟨⟨⟨a1, a2⟩, a3⟩, a4⟩, a5⟩, a6⟩, a7⟩, a8⟩ := hv
  simp_all
theorem vl8 {c1 c6 c7 c9 c10 c11 c12 A s t : Bool} (hv : val c1 c6 c7 c9 c10 c11 c12 A false s t = true) : s = false ∧ t = false := by
  unfold val at hv
  rw [Bool.and_eq_true, Bool.and_eq_true, Bool.and_eq_true, Bool.and_eq_true, Bool.and_eq_true, Bool.and_eq_true, Bool.and_eq_true] at hv
  obtain ⟨⟨⟨⟨⟨⟨⟨a1, a2⟩, a3⟩, a4⟩, a5⟩, a6⟩, a7⟩, a8⟩ := hv
  simp_all
theorem vl9 {c1 c6 c7 c9 c10 c12 t : Bool} (hv : val c1 c6 c7 c9 c10 true c12 true true false t = true) : c1 = true ∧ c6 = true ∧ c7 = true ∧ c9 = true ∧ c10 = true ∧ t = false := by
  unfold val at hv
  rw [Bool.and_eq_true, Bool.and_eq_true, Bool.and_eq_true, Bool.and_eq_true, Bool.and_eq_true, Bool.and_eq_true, Bool.and_eq_true] at hv
  obtain ⟨⟨⟨⟨⟨⟨⟨a1, a2⟩, a3⟩, a4⟩, a5⟩, a6⟩, a7⟩, a8⟩ := hv
  simp_all
theorem vl10 {c1 c6 c7 c9 c10 c11 A B : Bool} (hv : val c1 c6 c7 c9 c10 c11 true A B true false = true) : c1 = true ∧ c6 = true ∧ c7 = true ∧ c9 = true ∧ c10 = true ∧ c11 = true ∧ A = true ∧ B = true := by
  unfold val at hv
  rw [Bool.and_eq_true, Bool.and_eq_true, Bool.and_eq_true, Bool.and_eq_true, Bool.and_eq_true, Bool.and_eq_true, Bool.and_eq_true] at hv
  obtain ⟨⟨⟨⟨⟨⟨⟨a1, a2⟩, a3⟩, a4⟩, a5⟩, a6⟩, a7⟩, a8⟩ := hv
  simp_all
theorem vl11 {c1 c6 c7 c9 c10 c11 c12 A B s t : Bool} (hv : val c1 c6 c7 c9 c10 c11 c12 A B s t = true) (hf : (s && t) = true) : c1 = true ∧ c6 = true ∧ c7 = true ∧ c9 = true ∧ c10 = true ∧ c11 = true ∧ c12 = true ∧ A = true ∧ B = true ∧ s = true ∧ t = true := by
  unfold val at hv
  rw [Bool.and_eq_true, Bool.and_eq_true, Bool.and_eq_true, Bool.and_eq_true, Bool.and_eq_true, Bool.and_eq_true, Bool.and_eq_true] at hv
  obtain ⟨⟨⟨⟨⟨⟨⟨a1, a2⟩, a3⟩, a4⟩, a5⟩, a6⟩, a7⟩, a8⟩ := hv
  rw [Bool.and_eq_true] at hf
  obtain ⟨rfl, rfl⟩ := hf
  simp_all
theorem wl1 {c1 c6 c7 c9 c10 c11 c12 B : Bool} (hv : val c1 c6 c7 c9 c10 c11 c12 false B false false = true) : val c1 c6 c7 c9 c10 c11 c12 true B false false = true := by
  unfold val at hv ⊢
  simp_all
theorem wl2 {c1 c6 c7 c9 c10 c11 c12 A : Bool} (hv : val c1 c6 c7 c9 c10 c11 c12 A false false false = true) : val c1 c6 c7 c9 c10 c11 c12 A true false false = true := by
  unfold val at hv ⊢
  simp_all
theorem wl3 {c12 A B : Bool} (hv : val true true true true true false c12 A B false false = true) : val true true true true true true c12 A B false false = true := by
  unfold val at hv ⊢
  simp_all
theorem wl4 {c11 A B s : Bool} (hv : val true true true true true c11 false A B s false = true) : val true true true true true c11 true A B s false = true := by
  unfold val at hv ⊢
  simp_all
theorem wl5 (c12 : Bool) : val true true true true true true c12 true true true false = true := by cases c12 <;> rfl
theorem inv13 {P : Program} {ops : Array Oper} {Q : Exit → Act → World → Prop} {S : World → Prop} (J : Bool → Bool → Bool → Bool → Bool → Bool → Bool → Bool → Bool → Bool → Bool → Act → World → Prop)
    (hready : all11 (fun c1 c6 c7 c9 c10 c11 c12 A B s t => !val c1 c6 c7 c9 c10 c11 c12 A B s t || (Region.ready .any ops (lst c1 c6 c7 c9 c10 c11 c12 A B s t)).all (cond c1 c6 c7 c9 c10 c11 c12 A B s t)) = true)
    (hfin : all11 (fun c1 c6 c7 c9 c10 c11 c12 A B s t => !(val c1 c6 c7 c9 c10 c11 c12 A B s t && (Region.ready .any ops (lst c1 c6 c7 c9 c10 c11 c12 A B s t)).isEmpty) || (s && t)) = true)
    (h1 : ∀ A B a w, J false false false false false false false A B false false a w → wpOp P ops Q 1 (fun a' w' => S w' ∧ J true false false false false false false A B false false a' w') a w)
    (h6 : ∀ A B a w, J true false false false false false false A B false false a w → wpOp P ops Q 6 (fun a' w' => S w' ∧ J true true false false false false false A B false false a' w') a w)
    (h7 : ∀ A B a w, J true true false false false false false A B false false a w → wpOp P ops Q 7 (fun a' w' => S w' ∧ J true true true false false false false A B false false a' w') a w)
    (h9 : ∀ A B a w, J true true true false false false false A B false false a w → wpOp P ops Q 9 (fun a' w' => S w' ∧ J true true true true false false false A B false false a' w') a w)
    (h10 : ∀ A B a w, J true true true true false false false A B false false a w → wpOp P ops Q 10 (fun a' w' => S w' ∧ J true true true true true false false A B false false a' w') a w)
    (h11 : ∀ c12 A B a w, J true true true true true false c12 A B false false a w → wpOp P ops Q 11 (fun a' w' => S w' ∧ J true true true true true true c12 A B false false a' w') a w)
    (h12 : ∀ c11 A B s a w, J true true true true true c11 false A B s false a w → wpOp P ops Q 12 (fun a' w' => S w' ∧ J true true true true true c11 true A B s false a' w') a w)
    (h13 : ∀ c1 c6 c7 c9 c10 c11 c12 B a w, J c1 c6 c7 c9 c10 c11 c12 false B false false a w → wpOp P ops Q 13 (fun a' w' => S w' ∧ J c1 c6 c7 c9 c10 c11 c12 true B false false a' w') a w)
    (h14 : ∀ c1 c6 c7 c9 c10 c11 c12 A a w, J c1 c6 c7 c9 c10 c11 c12 A false false false a w → wpOp P ops Q 14 (fun a' w' => S w' ∧ J c1 c6 c7 c9 c10 c11 c12 A true false false a' w') a w)
    (h15 : ∀ c12 a w, J true true true true true true c12 true true false false a w → wpOp P ops Q 15 (fun a' w' => S w' ∧ J true true true true true true c12 true true true false a' w') a w)
    (h16 : ∀ a w, J true true true true true true true true true true false a w → wpOp P ops Q 16 (fun a' w' => S w' ∧ J true true true true true true true true true true true a' w') a w)
    (hdone : ∀ a w, J true true true true true true true true true true true a w → Q .normal a w)
    (a : Act) (w : World) (h0 : J false false false false false false false false false false false a w) : wpAnyH P .any ops Q S 11 (lst false false false false false false false false false false false) a w := by
  refine wpAnyH_inv (fun l a w => ∃ c1 c6 c7 c9 c10 c11 c12 A B s t, l = lst c1 c6 c7 c9 c10 c11 c12 A B s t ∧ val c1 c6 c7 c9 c10 c11 c12 A B s t = true ∧ J c1 c6 c7 c9 c10 c11 c12 A B s t a w) ?_ ?_ (fun _ _ _ _ => ready_not) 11 _ a w (by decide) ⟨_, _, _, _, _, _, _, _, _, _, _, rfl, rfl, h0⟩
  · rintro l a w ⟨c1, c6, c7, c9, c10, c11, c12, A, B, s, t, rfl, hv, hJ⟩ i hi
    have hc := List.all_eq_true.1 (imp_of (all11_at hready c1 c6 c7 c9 c10 c11 c12 A B s t) hv) i hi
    simp only [cond, Bool.or_eq_true, Bool.and_eq_true, beq_iff_eq, Bool.not_eq_true', or_assoc] at hc
    rcases hc with ⟨rfl, rfl⟩ | ⟨⟨rfl, rfl⟩, rfl⟩ | ⟨⟨rfl, rfl⟩, rfl⟩ | ⟨⟨rfl, rfl⟩, rfl⟩ | ⟨⟨rfl, rfl⟩, rfl⟩ | ⟨⟨rfl, rfl⟩, rfl⟩ | ⟨⟨rfl, rfl⟩, rfl⟩ | ⟨rfl, rfl⟩ | ⟨rfl, rfl⟩ | ⟨⟨⟨⟨rfl, rfl⟩, rfl⟩, rfl⟩, rfl⟩ | ⟨⟨⟨rfl, rfl⟩, rfl⟩, rfl⟩
    · obtain ⟨rfl, rfl, rfl, rfl, rfl, rfl, rfl, rfl⟩ : c6 = false ∧ c7 = false ∧ c9 = false ∧ c10 = false ∧ c11 = false ∧ c12 = false ∧ s = false ∧ t = false := vl0 hv
      exact wpOp_mono (fun a' w' h => ⟨h.1, _, _, _, _, _, _, _, _, _, _, _, rfl, rfl, h.2⟩) (h1 A B a w hJ)
    · obtain ⟨rfl, rfl, rfl, rfl, rfl, rfl, rfl⟩ : c7 = false ∧ c9 = false ∧ c10 = false ∧ c11 = false ∧ c12 = false ∧ s = false ∧ t = false := vl1 hv
      exact wpOp_mono (fun a' w' h => ⟨h.1, _, _, _, _, _, _, _, _, _, _, _, rfl, rfl, h.2⟩) (h6 A B a w hJ)
    · obtain ⟨rfl, rfl, rfl, rfl, rfl, rfl, rfl⟩ : c1 = true ∧ c9 = false ∧ c10 = false ∧ c11 = false ∧ c12 = false ∧ s = false ∧ t = false := vl2 hv
      exact wpOp_mono (fun a' w' h => ⟨h.1, _, _, _, _, _, _, _, _, _, _, _, rfl, rfl, h.2⟩) (h7 A B a w hJ)
    · obtain ⟨rfl, rfl, rfl, rfl, rfl, rfl, rfl⟩ : c1 = true ∧ c6 = true ∧ c10 = false ∧ c11 = false ∧ c12 = false ∧ s = false ∧ t = false := vl3 hv
      exact wpOp_mono (fun a' w' h => ⟨h.1, _, _, _, _, _, _, _, _, _, _, _, rfl, rfl, h.2⟩) (h9 A B a w hJ)
    · obtain ⟨rfl, rfl, rfl, rfl, rfl, rfl, rfl⟩ : c1 = true ∧ c6 = true ∧ c7 = true ∧ c11 = false ∧ c12 = false ∧ s = false ∧ t = false := vl4 hv
      exact wpOp_mono (fun a' w' h => ⟨h.1, _, _, _, _, _, _, _, _, _, _, _, rfl, rfl, h.2⟩) (h10 A B a w hJ)
    · obtain ⟨rfl, rfl, rfl, rfl, rfl, rfl⟩ : c1 = true ∧ c6 = true ∧ c7 = true ∧ c9 = true ∧ s = false ∧ t = false := vl5 hv
      exact wpOp_mono (fun a' w' h => ⟨h.1, _, _, _, _, _, _, _, _, _, _, _, rfl, wl3 hv, h.2⟩) (h11 c12 A B a w hJ)
    · obtain ⟨rfl, rfl, rfl, rfl, rfl⟩ : c1 = true ∧ c6 = true ∧ c7 = true ∧ c9 = true ∧ t = false := vl6 hv
      exact wpOp_mono (fun a' w' h => ⟨h.1, _, _, _, _, _, _, _, _, _, _, _, rfl, wl4 hv, h.2⟩) (h12 c11 A B s a w hJ)
    · obtain ⟨rfl, rfl⟩ : s = false ∧ t = false := vl7 hv
      have hv' : val c1 c6 c7 c9 c10 c11 c12 true B false false = true := wl1 hv
      exact wpOp_mono (fun a' w' h => ⟨h.1, _, _, _, _, _, _, _, _, _, _, _, rfl, hv', h.2⟩) (h13 c1 c6 c7 c9 c10 c11 c12 B a w hJ)
    · obtain ⟨rfl, rfl⟩ : s = false ∧ t = false := vl8 hv
      have hv' : val c1 c6 c7 c9 c10 c11 c12 A true false false = true := wl2 hv
      exact wpOp_mono (fun a' w' h => ⟨h.1, _, _, _, _, _, _, _, _, _, _, _, rfl, hv', h.2⟩) (h14 c1 c6 c7 c9 c10 c11 c12 A a w hJ)
    · obtain ⟨rfl, rfl, rfl, rfl, rfl, rfl⟩ : c1 = true ∧ c6 = true ∧ c7 = true ∧ c9 = true ∧ c10 = true ∧ t = false := vl9 hv
      exact wpOp_mono (fun a' w' h => ⟨h.1, _, _, _, _, _, _, _, _, _, _, _, rfl, wl5 c12, h.2⟩) (h15 c12 a w hJ)
    · obtain ⟨rfl, rfl, rfl, rfl, rfl, rfl, rfl, rfl⟩ : c1 = true ∧ c6 = true ∧ c7 = true ∧ c9 = true ∧ c10 = true ∧ c11 = true ∧ A = true ∧ B = true := vl10 hv
      exact wpOp_mono (fun a' w' h => ⟨h.1, _, _, _, _, _, _, _, _, _, _, _, rfl, rfl, h.2⟩) (h16 a w hJ)
  · rintro l a w ⟨c1, c6, c7, c9, c10, c11, c12, A, B, s, t, rfl, hv, hJ⟩ hr
    have hf := imp_of (all11_at hfin c1 c6 c7 c9 c10 c11 c12 A B s t) (by rw [hv, hr]; rfl)
    obtain ⟨rfl, rfl, rfl, rfl, rfl, rfl, rfl, rfl, rfl, rfl, rfl⟩ : c1 = true ∧ c6 = true ∧ c7 = true ∧ c9 = true ∧ c10 = true ∧ c11 = true ∧ c12 = true ∧ A = true ∧ B = true ∧ s = true ∧ t = true := vl11 hv hf
    exact hdone a w hJ
theorem inv13at {P : Program} {ops : Array Oper} {Q : Exit → Act → World → Prop} {S : World → Prop} (J : Act → Bool → Bool → Bool → Bool → Bool → Bool → Bool → Bool → Bool → Bool → Bool → Act → World → Prop)
    (A0 : Act) (hready : all11 (fun c1 c6 c7 c9 c10 c11 c12 A B s t => !val c1 c6 c7 c9 c10 c11 c12 A B s t || (Region.ready .any ops (lst c1 c6 c7 c9 c10 c11 c12 A B s t)).all (cond c1 c6 c7 c9 c10 c11 c12 A B s t)) = true)
    (hfin : all11 (fun c1 c6 c7 c9 c10 c11 c12 A B s t => !(val c1 c6 c7 c9 c10 c11 c12 A B s t && (Region.ready .any ops (lst c1 c6 c7 c9 c10 c11 c12 A B s t)).isEmpty) || (s && t)) = true)
    (h1 : ∀ A B a w, J A0 false false false false false false false A B false false a w → wpOp P ops Q 1 (fun a' w' => S w' ∧ J A0 true false false false false false false A B false false a' w') a w)
    (h6 : ∀ A B a w, J A0 true false false false false false false A B false false a w → wpOp P ops Q 6 (fun a' w' => S w' ∧ J A0 true true false false false false false A B false false a' w') a w)
    (h7 : ∀ A B a w, J A0 true true false false false false false A B false false a w → wpOp P ops Q 7 (fun a' w' => S w' ∧ J A0 true true true false false false false A B false false a' w') a w)
    (h9 : ∀ A B a w, J A0 true true true false false false false A B false false a w → wpOp P ops Q 9 (fun a' w' => S w' ∧ J A0 true true true true false false false A B false false a' w') a w)
    (h10 : ∀ A B a w, J A0 true true true true false false false A B false false a w → wpOp P ops Q 10 (fun a' w' => S w' ∧ J A0 true true true true true false false A B false false a' w') a w)
    (h11 : ∀ c12 A B a w, J A0 true true true true true false c12 A B false false a w → wpOp P ops Q 11 (fun a' w' => S w' ∧ J A0 true true true true true true c12 A B false false a' w') a w)
    (h12 : ∀ c11 A B s a w, J A0 true true true true true c11 false A B s false a w → wpOp P ops Q 12 (fun a' w' => S w' ∧ J A0 true true true true true c11 true A B s false a' w') a w)
    (h13 : ∀ c1 c6 c7 c9 c10 c11 c12 B a w, J A0 c1 c6 c7 c9 c10 c11 c12 false B false false a w → wpOp P ops Q 13 (fun a' w' => S w' ∧ J A0 c1 c6 c7 c9 c10 c11 c12 true B false false a' w') a w)
    (h14 : ∀ c1 c6 c7 c9 c10 c11 c12 A a w, J A0 c1 c6 c7 c9 c10 c11 c12 A false false false a w → wpOp P ops Q 14 (fun a' w' => S w' ∧ J A0 c1 c6 c7 c9 c10 c11 c12 A true false false a' w') a w)
    (h15 : ∀ c12 a w, J A0 true true true true true true c12 true true false false a w → wpOp P ops Q 15 (fun a' w' => S w' ∧ J A0 true true true true true true c12 true true true false a' w') a w)
    (h16 : ∀ a w, J A0 true true true true true true true true true true false a w → wpOp P ops Q 16 (fun a' w' => S w' ∧ J A0 true true true true true true true true true true true a' w') a w)
    (hdone : ∀ a w, J A0 true true true true true true true true true true true a w → Q .normal a w)
    (w : World) (h0 : J A0 false false false false false false false false false false false A0 w) : wpAnyH P .any ops Q S 11 (lst false false false false false false false false false false false) A0 w :=
  inv13 (J A0) hready hfin h1 h6 h7 h9 h10 h11 h12 h13 h14 h15 h16 hdone A0 w h0
end Go.Proofs.Ytddpladmkmpoaaa
