import Derived.Test.YtfclknlpdcanpaaGreatDoorW12
/- aged: an allotment more, in plain words. -/
namespace Go.Proofs.YtfclknlpdcanpaaGreatDoor
open Go Go.Shelf Go.ChangeShapes Go.WideShapes Go.ChangeAt Go.RowKit Go.Maps
set_option linter.unusedVariables false
def findC (C : List Cl) (s : List UInt8) : Option Cl := C.find? fun c => decide (c.key.data.toList = s)
/-- what Allot answers -/
def allS (C : List Cl) (A : List Al) (x : Al) : Int :=
  if ¬ (dayB x.day = true ∧ ¬ x.amt < 1) then 1
  else if A.length = 1000 then 2
  else match findC C x.inv.data.toList with
  | none => 73
  | some c => if x.day < c.day then 66 else if x.amt > c.amt - sumAll (ptsOf A x.inv.data.toList) then 75 else 0
theorem Inv0.find {G : Gh} (h : Inv0 G) (s : List UInt8) : findC (G.ps.map G.cl) s = (G.kf s).map G.cl := by
  unfold findC
  cases hk : G.kf s with
  | none =>
    rw [Option.map_none, List.find?_eq_none]
    intro c hc e
    obtain ⟨p, hp, rfl⟩ := List.mem_map.1 hc
    have := (h.kf s p).2 ⟨hp, by simpa using e⟩
    rw [hk] at this
    cases this
  | some p =>
    obtain ⟨hp, e⟩ := (h.kf s p).1 hk
    rw [Option.map_some, List.find?_map]
    have h1 : List.find? ((fun c => decide (c.key.data.toList = s)) ∘ G.cl) G.ps = some p := by
      cases hf : List.find? ((fun c => decide (c.key.data.toList = s)) ∘ G.cl) G.ps with
      | none =>
        rw [List.find?_eq_none] at hf
        exact absurd (by simpa using e) (hf p hp)
      | some q =>
        have h2 := List.find?_some hf
        have h3 := List.mem_of_find?_eq_some hf
        have h4 := (h.kf s q).2 ⟨h3, by simpa using h2⟩
        rw [hk] at h4
        exact congrArg some (Option.some.inj h4).symm
    rw [h1]
    rfl
/-- the view with the allotment in its lists -/
def Gh.alloted (G : Gh) (p : Nat) (va pv : Value) (x : Al) : Gh := { G with
  va := va
  al := G.al ++ [x]
  lf := fun y => if y = p then G.lf p - x.amt else G.lf y
  pv := fun y => if y = p then pv else G.pv y
  pt := fun y => if y = p then G.pt p ++ [(x.day, x.amt)] else G.pt y }
theorem sumAll_one (x : Int × Int) : sumAll [x] = x.2 := by show x.2 + 0 = _; omega
theorem Inv.alloted0 {G : Gh} (h : Inv G) {p : Nat} {x : Al} (va pv : Value) (hk : G.kf x.inv.data.toList = some p) (hl : G.al.length < 1000) (h1 : 1 ≤ x.amt) (h2 : x.day ≤ 3652059) (h3 : (G.cl p).day ≤ x.day) (h4 : x.amt ≤ G.lf p) : Inv0 (G.alloted p va pv x) := by
  obtain ⟨hp, hpk⟩ := (h.kf _ p).1 hk
  have hpt : ∀ y ∈ G.ps, (G.alloted p va pv x).pt y = ptsOf (G.al ++ [x]) (G.cl y).key.data.toList := fun y hy => by
    show (if y = p then G.pt p ++ [(x.day, x.amt)] else G.pt y) = _
    rw [ptsOf_append, ptsOf_one]
    by_cases e : y = p
    · rw [if_pos e, e, if_pos hpk.symm, h.pt p hp]
    · rw [if_neg e, if_neg (fun e2 => e (by
        have := (h.kf _ y).2 ⟨hy, e2.symm⟩
        rw [hk] at this
        exact (Option.some.inj this).symm)), List.append_nil, h.pt y hy]
  have hlf := h.lf p hp
  refine { pb := h.pb, nd := h.nd, km := h.km, mp := h.mp, kf := h.kf, qa := h.qa, ls := h.ls, pt := hpt, lf := ?_, sum := ?_, ok := h.ok, al := ?_, inv := h.inv, invm := h.invm, gone := h.gone, shb := h.shb, nw := h.nw, hp := h.hp, ts := h.ts, l1 := h.l1, l2 := ?_, l3 := ?_, l4 := h.l4, l5 := h.l5 }
  · intro y hy
    show (if y = p then G.lf p - x.amt else G.lf y) = (G.cl y).amt - sumAll (if y = p then G.pt p ++ [(x.day, x.amt)] else G.pt y)
    by_cases e : y = p
    · rw [if_pos e, if_pos e, e, sumAll_append, sumAll_one, hlf]; show _ = _ - (_ + x.amt); omega
    · rw [if_neg e, if_neg e]; exact h.lf y hy
  · intro y hy
    show sumAll (if y = p then G.pt p ++ [(x.day, x.amt)] else G.pt y) ≤ (G.cl y).amt
    by_cases e : y = p
    · rw [if_pos e, e, sumAll_append, sumAll_one]; show _ + x.amt ≤ _; omega
    · rw [if_neg e]; exact h.sum y hy
  · intro a ha
    rcases List.mem_append.1 ha with ha | ha
    · exact h.al a ha
    · rw [List.mem_singleton] at ha
      subst ha
      exact ⟨h1, h2, p, hp, hpk, h3⟩
  · show (G.al ++ [x]).length ≤ 1000
    rw [List.length_append]; simp; omega
  · show G.tn.length ≤ 5 * G.ps.length + (G.al ++ [x]).length
    rw [List.length_append]
    have := h.l3
    omega
theorem Inv.alloted {G : Gh} (h : Inv G) {p : Nat} {x : Al} {va pv vt : Value} {H' : List (Int × Nat)} (hk : G.kf x.inv.data.toList = some p) (hl : G.al.length < 1000) (h1 : 1 ≤ x.amt) (h2 : x.day ≤ 3652059) (h3 : (G.cl p).day ≤ x.day) (h4 : x.amt ≤ G.lf p) (hm : Marks (G.alloted p va pv x) p [x.day] H') :
    Inv (({ (G.alloted p va pv x) with vt := vt, tn := H' } : Gh).shown p (shr (G.cl p) (G.pt p ++ [(x.day, x.amt)]) (1 + G.gone))) := by
  obtain ⟨hp, hpk⟩ := (h.kf _ p).1 hk
  have h0 := h.alloted0 va pv hk hl h1 h2 h3 h4
  have hi1 : Inv0 ({ (G.alloted p va pv x) with vt := vt, tn := H' } : Gh) := by
    refine { pb := h0.pb, nd := h0.nd, km := h0.km, mp := h0.mp, kf := h0.kf, qa := h0.qa, ls := h0.ls, pt := h0.pt, lf := h0.lf, sum := h0.sum, ok := h0.ok, al := h0.al, inv := h0.inv, invm := h0.invm, gone := h0.gone, shb := h0.shb, nw := h0.nw, hp := hm.2.1, ts := ?_, l1 := h0.l1, l2 := h0.l2, l3 := ?_, l4 := h0.l4, l5 := h0.l5 }
    · intro y hy
      rcases (hm.1 y).1 hy with hy | ⟨hy, _⟩
      · exact h.ts y hy
      · show y.2 ∈ G.ps
        rw [hy]; exact hp
    · have h5 := hm.2.2
      have h6 := h.l3
      have e1 : (G.alloted p va pv x).tn = G.tn := rfl
      rw [e1] at h5
      show H'.length ≤ 5 * G.ps.length + (G.al ++ [x]).length
      rw [List.length_append]
      simp at h5 ⊢
      omega
  have hpp : (G.alloted p va pv x).pt p = G.pt p ++ [(x.day, x.amt)] := by simp [Gh.alloted]
  have hs := shr_bounds (h0.pos (p := p) hp) (h0.sum p hp) (by have := (h.ok p hp).a1; show (0 : Int) ≤ (G.cl p).amt; omega) (1 + G.gone)
  rw [hpp] at hs
  have hi2 := hi1.shown (p := p) hp (s := shr (G.cl p) (G.pt p ++ [(x.day, x.amt)]) (1 + G.gone)) ⟨hs.2.2.1, hs.2.2.2, hs.1, hs.2.1⟩
  refine { hi2 with sh := ?_, tc := ?_ }
  · intro y hy
    show (if y = p then shr (G.cl p) (G.pt p ++ [(x.day, x.amt)]) (1 + G.gone) else G.sh y) = shr (G.cl y) (if y = p then G.pt p ++ [(x.day, x.amt)] else G.pt y) (1 + G.gone)
    by_cases e : y = p
    · rw [if_pos e, if_pos e, e]
    · rw [if_neg e, if_neg e]; exact h.sh y hy
  · intro y hy t ht h5 h6
    have ht : t ∈ trn (G.cl y) (if y = p then G.pt p ++ [(x.day, x.amt)] else G.pt y) := ht
    have h5 : 1 + G.gone < t := h5
    show (t, y) ∈ H'
    refine (hm.1 (t, y)).2 ?_
    by_cases e : y = p
    · rw [if_pos e, e] at ht
      have : t ∈ trn (G.cl p) (G.pt p) ∨ t = x.day := by
        simp only [trn, List.map_append, List.mem_append] at ht ⊢
        rcases ht with h | h | h
        · exact .inl (.inl h)
        · exact .inl (.inr h)
        · right; simpa using h
      rcases this with h7 | h7
      · left; show (t, y) ∈ G.tn; rw [e]; exact h.tc p hp t h7 h5 h6
      · exact .inr ⟨e, by simp [h7], h5, h6⟩
    · rw [if_neg e] at ht
      exact .inl (h.tc y hy t ht h5 h6)
end Go.Proofs.YtfclknlpdcanpaaGreatDoor
