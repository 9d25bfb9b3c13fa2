/- aged: what holds of a view at rest, in plain words. -/
import Derived.Test.YtildpgfhahmgmaaDoorKeA
namespace Go.Proofs.YtildpgfhahmgmaaDoor
open Go Go.Shelf Go.ChangeShapes Go.WideShapes Go.ChangeAt Go.RowKit Go.Maps
set_option linter.unusedVariables false
def sumL (l : List Nat) (f : Nat → Int) : Int := l.foldr (fun p x => f p + x) 0
theorem sumL_nil (f : Nat → Int) : sumL [] f = 0 := rfl
theorem sumL_cons (p : Nat) (l : List Nat) (f : Nat → Int) : sumL (p :: l) f = f p + sumL l f := rfl
theorem sumL_append (l m : List Nat) (f : Nat → Int) : sumL (l ++ m) f = sumL l f + sumL m f := by
  induction l with
  | nil => rw [List.nil_append, sumL_nil, Int.zero_add]
  | cons p l ih => rw [List.cons_append, sumL_cons, sumL_cons, ih]; omega
theorem sumL_congr {l : List Nat} {f g : Nat → Int} (h : ∀ p ∈ l, f p = g p) : sumL l f = sumL l g := by
  induction l with
  | nil => rfl
  | cons p l ih => rw [sumL_cons, sumL_cons, h p List.mem_cons_self, ih (fun q hq => h q (List.mem_cons_of_mem _ hq))]
theorem sumL_nonneg {l : List Nat} {f : Nat → Int} (h : ∀ p ∈ l, 0 ≤ f p) : 0 ≤ sumL l f := by
  induction l with
  | nil => exact Int.le_refl _
  | cons p l ih =>
    have h1 := h p List.mem_cons_self
    have h2 := ih (fun q hq => h q (List.mem_cons_of_mem _ hq))
    rw [sumL_cons]; omega
theorem sumL_le {l : List Nat} {f g : Nat → Int} (h : ∀ p ∈ l, f p ≤ g p) : sumL l f ≤ sumL l g := by
  induction l with
  | nil => exact Int.le_refl _
  | cons p l ih =>
    have h1 := h p List.mem_cons_self
    have h2 := ih (fun q hq => h q (List.mem_cons_of_mem _ hq))
    rw [sumL_cons, sumL_cons]; omega
theorem sumL_filter_le {l : List Nat} {f : Nat → Int} (P : Nat → Bool) (h : ∀ p ∈ l, 0 ≤ f p) : sumL (l.filter P) f ≤ sumL l f := by
  induction l with
  | nil => exact Int.le_refl _
  | cons p l ih =>
    have h1 := h p List.mem_cons_self
    have h2 := ih (fun q hq => h q (List.mem_cons_of_mem _ hq))
    rw [List.filter_cons, sumL_cons]
    split
    · rw [sumL_cons]; omega
    · omega
theorem sumL_one_le {l : List Nat} {f : Nat → Int} (h : ∀ p ∈ l, 0 ≤ f p) {p : Nat} (hp : p ∈ l) : f p ≤ sumL l f := by
  induction l with
  | nil => cases hp
  | cons q l ih =>
    have h1 := h q List.mem_cons_self
    have h3 := sumL_nonneg (fun q hq => h q (List.mem_cons_of_mem _ hq))
    rw [sumL_cons]
    rcases List.mem_cons.1 hp with rfl | hp
    · omega
    · have h2 := ih (fun q hq => h q (List.mem_cons_of_mem _ hq)) hp
      omega
theorem sumL_upd {l : List Nat} (hn : l.Nodup) {f : Nat → Int} {p : Nat} (hp : p ∈ l) (v : Int) : sumL l (fun x => if x = p then v else f x) = sumL l f - f p + v := by
  induction l with
  | nil => cases hp
  | cons q l ih =>
    rw [List.nodup_cons] at hn
    rw [sumL_cons, sumL_cons]
    by_cases e : q = p
    · subst e
      rw [if_pos rfl, sumL_congr (f := fun x => if x = q then v else f x) (g := f) (fun x hx => if_neg (fun e => hn.1 (by rw [← e]; exact hx)))]
      omega
    · rw [if_neg e, ih hn.2 ((List.mem_cons.1 hp).resolve_left (fun h => e h.symm))]
      omega
/-- what a share puts into an age -/
def con (s : Int × Int) (j : Nat) : Int := if (j : Int) = s.1 then s.2 else 0
theorem con_bounds {s : Int × Int} {a : Int} (h : 0 ≤ s.2 ∧ s.2 ≤ a) (j : Nat) : 0 ≤ con s j ∧ con s j ≤ a := by
  unfold con
  split <;> omega
/-- what was allotted to a key -/
def ptsOf (A : List Al) (s : List UInt8) : Pts := (A.filter fun a => a.inv.data.toList = s).map fun a => (a.day, a.amt)
theorem ptsOf_append (A B : List Al) (s : List UInt8) : ptsOf (A ++ B) s = ptsOf A s ++ ptsOf B s := by simp [ptsOf]
theorem ptsOf_one (a : Al) (s : List UInt8) : ptsOf [a] s = if a.inv.data.toList = s then [(a.day, a.amt)] else [] := by
  unfold ptsOf
  by_cases h : a.inv.data.toList = s <;> simp [h]
/-- an invoice that can be -/
structure OkC (c : Cl) : Prop where
  d1 : 1 ≤ c.day
  d2 : c.due ≤ 3652059
  d3 : c.day ≤ c.due
  a1 : 1 ≤ c.amt
  a2 : c.amt ≤ 9223372036854775807
  s1 : c.key.size ≤ maxLen
  s2 : c.acc.size ≤ maxLen
def amts (G : Gh) (p : Nat) : Int := (G.cl p).amt
/-- all but what is shown -/
structure Inv0 (G : Gh) : Prop where
  pb : G.ps = G.bs
  nd : G.ps.Nodup
  km : G.mb = none ↔ G.ma = none
  mp : G.mb = none → G.ps = []
  kf : ∀ s p, G.kf s = some p ↔ p ∈ G.ps ∧ (G.cl p).key.data.toList = s
  qa : ∀ k, G.qa k ≠ none ↔ ∃ p ∈ G.ps, G.key p = k
  ls : ∀ k, G.ls k = G.ps.filter fun p => decide (G.key p = k)
  pt : ∀ p ∈ G.ps, G.pt p = ptsOf G.al (G.cl p).key.data.toList
  lf : ∀ p ∈ G.ps, G.lf p = (G.cl p).amt - sumAll (G.pt p)
  sum : ∀ p ∈ G.ps, sumAll (G.pt p) ≤ (G.cl p).amt
  ok : ∀ p ∈ G.ps, OkC (G.cl p)
  al : ∀ a ∈ G.al, 1 ≤ a.amt ∧ a.day ≤ 3652059 ∧ ∃ p ∈ G.ps, (G.cl p).key.data.toList = a.inv.data.toList ∧ (G.cl p).day ≤ a.day
  inv : G.inv = sumL G.ps (amts G)
  invm : G.inv ≤ 9223372036854775807
  gone : 0 ≤ G.gone ∧ G.gone ≤ 3652058
  shb : ∀ p ∈ G.ps, 0 ≤ (G.sh p).1 ∧ (G.sh p).1 ≤ 4 ∧ 0 ≤ (G.sh p).2 ∧ (G.sh p).2 ≤ (G.cl p).amt
  nw : ∀ k j, G.nw k j = sumL (G.ls k) (fun p => con (G.sh p) j)
  hp : Hp (dy G.tn) G.tn.length
  ts : ∀ x ∈ G.tn, x.2 ∈ G.ps
  l1 : G.ps.length ≤ 1000
  l2 : G.al.length ≤ 1000
  l3 : G.tn.length ≤ 5 * G.ps.length + G.al.length
  l4 : G.nk ≤ G.ps.length
  l5 : G.na ≤ G.ps.length
/-- the view at rest -/
structure Inv (G : Gh) : Prop extends Inv0 G where
  sh : ∀ p ∈ G.ps, G.sh p = shr (G.cl p) (G.pt p) (1 + G.gone)
  tc : ∀ p ∈ G.ps, ∀ x ∈ trn (G.cl p) (G.pt p), 1 + G.gone < x → x ≤ 3652059 → (x, p) ∈ G.tn
theorem Inv0.pos {G : Gh} (h : Inv0 G) {p : Nat} (hp : p ∈ G.ps) : ∀ x ∈ G.pt p, 1 ≤ x.2 := fun x hx => by
  rw [h.pt p hp] at hx
  obtain ⟨a, ha, rfl⟩ := List.mem_map.1 hx
  exact (h.al a (List.mem_filter.1 ha).1).1
theorem Inv0.len {G : Gh} (h : Inv0 G) {p : Nat} (hp : p ∈ G.ps) : (G.pt p).length ≤ 1000 := by
  rw [h.pt p hp]
  unfold ptsOf
  rw [List.length_map]
  exact Nat.le_trans (List.length_filter_le _ _) h.l2
theorem Inv0.mem_ls {G : Gh} (h : Inv0 G) {p : Nat} (hp : p ∈ G.ps) : p ∈ G.ls (G.key p) := by rw [h.ls]; exact List.mem_filter.2 ⟨hp, by simp⟩
theorem Inv0.ls_mem {G : Gh} (h : Inv0 G) {k : List UInt8} {p : Nat} (hp : p ∈ G.ls k) : p ∈ G.ps ∧ G.key p = k := by
  rw [h.ls] at hp
  have := List.mem_filter.1 hp
  exact ⟨this.1, by simpa using this.2⟩
theorem Inv0.ls_nodup {G : Gh} (h : Inv0 G) (k : List UInt8) : (G.ls k).Nodup := by rw [h.ls]; exact h.nd.filter _
theorem Inv0.no {G : Gh} (h : Inv0 G) {k : List UInt8} (hk : G.qa k = none) : G.ls k = [] ∧ ∀ j, G.nw k j = 0 := by
  have e : G.ls k = [] := by
    rw [List.eq_nil_iff_forall_not_mem]
    intro p hp
    have := h.ls_mem hp
    exact (h.qa k).2 ⟨p, this.1, this.2⟩ hk
  exact ⟨e, fun j => by rw [h.nw, e]; rfl⟩
theorem Inv0.amt_nonneg {G : Gh} (h : Inv0 G) : ∀ p ∈ G.ps, 0 ≤ amts G p := fun p hp => by
  have := (h.ok p hp).a1
  unfold amts
  omega
/-- whatever within its bounds each claim shows, an age's sum is an amount -/
theorem Inv0.age {G : Gh} (h : Inv0 G) (k : List UInt8) (f : Nat → Int) (hf : ∀ p ∈ G.ps, 0 ≤ f p ∧ f p ≤ (G.cl p).amt) : 0 ≤ sumL (G.ls k) f ∧ sumL (G.ls k) f ≤ 9223372036854775807 := by
  have h1 : ∀ p ∈ G.ls k, p ∈ G.ps := fun p hp => (h.ls_mem hp).1
  refine ⟨sumL_nonneg fun p hp => (hf p (h1 p hp)).1, ?_⟩
  have h2 : sumL (G.ls k) f ≤ sumL (G.ls k) (amts G) := sumL_le fun p hp => (hf p (h1 p hp)).2
  have h3 : sumL (G.ls k) (amts G) ≤ sumL G.ps (amts G) := by rw [h.ls]; exact sumL_filter_le _ h.amt_nonneg
  have := h.inv
  have := h.invm
  omega
theorem shown_nw {G : Gh} (h : Inv0 G) {p : Nat} (hp : p ∈ G.ps) (s : Int × Int) (k : List UInt8) (j : Nat) : (G.shown p s).nw k j = sumL (G.ls k) (fun x => con (if x = p then s else G.sh x) j) := by
  have e : (fun x => con (if x = p then s else G.sh x) j) = fun x => if x = p then con s j else con (G.sh x) j := funext fun x => by split <;> rfl
  show (if k = G.key p then (G.nw k j - (if (j : Int) = (G.sh p).1 then (G.sh p).2 else 0)) + (if (j : Int) = s.1 then s.2 else 0) else G.nw k j) = _
  rw [e]
  by_cases hk : k = G.key p
  · rw [if_pos hk, hk, sumL_upd (h.ls_nodup _) (h.mem_ls hp) (con s j), ← h.nw]
    rfl
  · rw [if_neg hk, h.nw]
    refine sumL_congr fun x hx => ?_
    rw [if_neg (fun e => hk (by rw [← e]; exact (h.ls_mem hx).2.symm))]
theorem Inv0.showOK {G : Gh} (h : Inv0 G) {p : Nat} (hp : p ∈ G.ps) : ShowOK G p := by
  have hok := h.ok p hp
  have hsb := h.shb p hp
  have hd1 := hok.d1; have hd2 := hok.d2; have hd3 := hok.d3; have ha1 := hok.a1; have ha2 := hok.a2
  refine ⟨by have := h.len hp; omega, h.pos hp, h.sum p hp, ⟨by omega, by omega⟩, ⟨by omega, by omega⟩, h.gone, ⟨hsb.1, hsb.2.1⟩, hok.s2, ?_, fun j hj => ?_⟩
  · have hb := h.age (G.key p) (fun x => con (G.sh x) (G.sh p).1.toNat) (fun x hx => con_bounds ⟨(h.shb x hx).2.2.1, (h.shb x hx).2.2.2⟩ _)
    have h1 := sumL_one_le (l := G.ls (G.key p)) (f := fun x => con (G.sh x) (G.sh p).1.toNat) (fun x hx => (con_bounds ⟨(h.shb x (h.ls_mem hx).1).2.2.1, (h.shb x (h.ls_mem hx).1).2.2.2⟩ _).1) (h.mem_ls hp)
    have h2 : con (G.sh p) (G.sh p).1.toNat = (G.sh p).2 := by unfold con; rw [if_pos (by omega)]
    rw [h.nw]
    simp only [h2] at h1
    omega
  · rw [shown_nw h hp]
    have hs := shr_bounds (h.pos hp) (h.sum p hp) (by omega) (1 + G.gone)
    have hb := h.age (G.key p) (fun x => con (if x = p then shr (G.cl p) (G.pt p) (1 + G.gone) else G.sh x) j) (fun x hx => by
      show 0 ≤ con _ j ∧ con _ j ≤ _
      split
      · rename_i e; subst e; exact con_bounds ⟨hs.1, hs.2.1⟩ _
      · exact con_bounds ⟨(h.shb x hx).2.2.1, (h.shb x hx).2.2.2⟩ _)
    omega
theorem Inv0.shown {G : Gh} (h : Inv0 G) {p : Nat} (hp : p ∈ G.ps) {s : Int × Int} (hs : 0 ≤ s.1 ∧ s.1 ≤ 4 ∧ 0 ≤ s.2 ∧ s.2 ≤ (G.cl p).amt) : Inv0 (G.shown p s) :=
  { pb := h.pb, nd := h.nd, km := h.km, mp := h.mp, kf := h.kf, qa := h.qa, ls := h.ls, pt := h.pt, lf := h.lf, sum := h.sum, ok := h.ok, al := h.al, inv := h.inv, invm := h.invm, gone := h.gone
    shb := fun x hx => by
      show 0 ≤ (if x = p then s else G.sh x).1 ∧ (if x = p then s else G.sh x).1 ≤ 4 ∧ 0 ≤ (if x = p then s else G.sh x).2 ∧ (if x = p then s else G.sh x).2 ≤ (G.cl x).amt
      by_cases e : x = p
      · subst e; simp only [if_true]; exact hs
      · simp only [if_neg e]; exact h.shb x hx
    nw := fun k j => shown_nw h hp s k j
    hp := h.hp, ts := h.ts, l1 := h.l1, l2 := h.l2, l3 := h.l3, l4 := h.l4, l5 := h.l5 }
end Go.Proofs.YtildpgfhahmgmaaDoor
