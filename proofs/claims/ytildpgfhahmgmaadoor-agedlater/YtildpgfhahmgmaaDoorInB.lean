/- aged: a view by its invoices and allotments; what an invoice more makes. -/
import Derived.Test.YtildpgfhahmgmaaDoorInA
namespace Go.Proofs.YtildpgfhahmgmaaDoor
open Go Go.Shelf Go.ChangeShapes Go.WideShapes Go.ChangeAt Go.RowKit Go.Maps
set_option linter.unusedVariables false
/-- the view that took these -/
structure Vw (W : World) (d : Nat) (S : Nat → Prop) (C : List Cl) (A : List Al) (g : Int) : Prop where
  ex : ∃ G, Inv G ∧ Raw W d G ∧ G.ps.map G.cl = C ∧ G.al = A ∧ G.gone = g ∧ ∀ b, G.own d b → S b
  lt : ∀ b, S b → b < W.heap.size
  z : ¬ S 0
theorem Vw.keep {W W' : World} {d : Nat} {S : Nat → Prop} {C : List Cl} {A : List Al} {g : Int} (h : Vw W d S C A g) (hs : W.heap.size ≤ W'.heap.size) (hk : ∀ b, S b → W'.heap[b]? = W.heap[b]?) : Vw W' d S C A g := by
  obtain ⟨G, h1, h2, h3, h4, h5, h6⟩ := h.ex
  exact ⟨⟨G, h1, h2.keep (fun b hb => hk b (h6 b hb)), h3, h4, h5, h6⟩, fun b hb => Nat.lt_of_lt_of_le (h.lt b hb) hs, h.z⟩
theorem Vw.below {W W' : World} {d : Nat} {S : Nat → Prop} {C : List Cl} {A : List Al} {g : Int} (h : Vw W d S C A g) (hb : Below W.heap.size W W') : Vw W' d S C A g := h.keep hb.size fun b hs => hb.block b (h.lt b hs)
/-- a view beside one that changes -/
theorem Vw.fr {W W' : World} {d : Nat} {S X : Nat → Prop} {C : List Cl} {A : List Al} {g : Int} (h : Vw W d S C A g) (hf : Fr W W' X) (hx : ∀ b, S b → ¬ X b) : Vw W' d S C A g := h.keep hf.size fun b hs => hf.block b (h.lt b hs) (hx b hs)
/-- what a changing call leaves -/
def VwNext (W w' : World) (d : Nat) (S : Nat → Prop) (C : List Cl) (A : List Al) (g : Int) : Prop := ∃ S', Vw w' d S' C A g ∧ Fr W w' S ∧ ∀ b, S' b → S b ∨ W.heap.size ≤ b
theorem vw_next {W w' : World} {d : Nat} {S : Nat → Prop} {G G' : Gh} {C : List Cl} {A : List Al} {g : Int} (hn : Next W w' d G G') (hS : ∀ b, G.own d b → S b) (hz : ¬ S 0) (h0 : 0 < W.heap.size) (hi : Inv G') (h1 : G'.ps.map G'.cl = C) (h2 : G'.al = A) (h3 : G'.gone = g) : VwNext W w' d S C A g := by
  refine ⟨G'.own d, ⟨⟨G', hi, hn.raw, h1, h2, h3, fun b hb => hb⟩, fun b hb => hn.raw.lt hb, fun hb => ?_⟩, hn.fr.mono (fun i _ hx => hS i hx), fun b hb => (hn.own b hb).imp (hS b) id⟩
  rcases hn.own 0 hb with h | h
  · exact hz (hS 0 h)
  · omega
def sumC (C : List Cl) : Int := C.foldr (fun c x => c.amt + x) 0
theorem sumC_append (C D : List Cl) : sumC (C ++ D) = sumC C + sumC D := by
  induction C with
  | nil => rw [List.nil_append]; show _ = 0 + _; omega
  | cons c C ih => rw [List.cons_append]; show c.amt + sumC (C ++ D) = c.amt + sumC C + _; rw [ih]; omega
theorem sumC_map (l : List Nat) (f : Nat → Cl) : sumC (l.map f) = sumL l (fun p => (f p).amt) := by
  induction l with
  | nil => rfl
  | cons p l ih => rw [List.map_cons, sumL_cons, ← ih]; rfl
theorem Inv0.total {G : Gh} (h : Inv0 G) : G.inv = sumC (G.ps.map G.cl) := by rw [h.inv, sumC_map]; rfl
/-- is there an invoice of this key? -/
def has (C : List Cl) (s : List UInt8) : Bool := C.any fun c => decide (c.key.data.toList = s)
theorem has_iff {C : List Cl} {s : List UInt8} : has C s = true ↔ ∃ c ∈ C, c.key.data.toList = s := by simp [has]
theorem Inv0.has {G : Gh} (h : Inv0 G) (s : List UInt8) : has (G.ps.map G.cl) s = true ↔ G.kf s ≠ none := by
  rw [has_iff]
  constructor
  · rintro ⟨c, hc, e⟩
    obtain ⟨p, hp, rfl⟩ := List.mem_map.1 hc
    rw [(h.kf s p).2 ⟨hp, e⟩]
    exact fun e => by cases e
  · intro hk
    obtain ⟨p, hp⟩ := some_of hk
    have := (h.kf s p).1 hp
    exact ⟨G.cl p, List.mem_map.2 ⟨p, this.1, rfl⟩, this.2⟩
/-- what Invoice answers -/
def invS (C : List Cl) (c : Cl) : Int :=
  if ¬ (dayB c.day = true ∧ dayB c.due = true ∧ ¬ c.due < c.day ∧ ¬ c.amt < 1) then 1
  else if C.length = 1000 then 2
  else if has C c.key.data.toList = true then 70
  else if sumC C + c.amt > 9223372036854775807 then 11
  else 0
/-- the view as it is handed to keep -/
def Gh.more (G : Gh) (p : Nat) (c : Cl) : Gh := ({ G with inv := G.inv + c.amt } : Gh).reg p c
theorem more_old {G : Gh} {p : Nat} {c : Cl} {x : Nat} (h : x ≠ p) : (G.more p c).cl x = G.cl x ∧ (G.more p c).pt x = G.pt x ∧ (G.more p c).lf x = G.lf x ∧ (G.more p c).sh x = G.sh x := by simp [Gh.more, Gh.reg, h]
theorem more_new {G : Gh} {p : Nat} {c : Cl} : (G.more p c).cl p = c ∧ (G.more p c).pt p = [] ∧ (G.more p c).lf p = c.amt ∧ (G.more p c).sh p = (0, 0) := by simp [Gh.more, Gh.reg]
theorem more_key {G : Gh} {p : Nat} {c : Cl} : (G.more p c).key p = c.acc.data.toList := by unfold Gh.key; rw [more_new.1]
theorem ls_len {G : Gh} (h : Inv0 G) (k : List UInt8) : (G.ls k).length ≤ G.ps.length := by rw [h.ls]; exact List.length_filter_le _ _
theorem more_nw {G : Gh} {p : Nat} {c : Cl} (s : Int × Int) (k : List UInt8) (j : Nat) : ((G.more p c).shown p s).nw k j = if k = c.acc.data.toList then G.nw k j + con s j else G.nw k j := by
  have e0 : (if (j : Int) = ((G.more p c).sh p).1 then ((G.more p c).sh p).2 else 0) = 0 := by rw [more_new.2.2.2]; split <;> rfl
  show (if k = (G.more p c).key p then (G.nw k j - (if (j : Int) = ((G.more p c).sh p).1 then ((G.more p c).sh p).2 else 0)) + (if (j : Int) = s.1 then s.2 else 0) else G.nw k j) = _
  rw [more_key, e0, Int.sub_zero]
  rfl
theorem Inv0.moreOK {G : Gh} (h : Inv0 G) {p : Nat} {c : Cl} (hc : OkC c) (hm : G.inv + c.amt ≤ 9223372036854775807) : ShowOK (G.more p c) p := by
  have hd1 := hc.d1; have hd2 := hc.d2; have hd3 := hc.d3; have ha1 := hc.a1; have ha2 := hc.a2
  have hb : ∀ k j, 0 ≤ G.nw k j ∧ G.nw k j ≤ G.inv := fun k j => by
    rw [h.nw]
    have h1 : ∀ x ∈ G.ls k, x ∈ G.ps := fun x hx => (h.ls_mem hx).1
    refine ⟨sumL_nonneg fun x hx => (con_bounds ⟨(h.shb x (h1 x hx)).2.2.1, (h.shb x (h1 x hx)).2.2.2⟩ _).1, ?_⟩
    have h2 : sumL (G.ls k) (fun x => con (G.sh x) j) ≤ sumL (G.ls k) (amts G) := sumL_le fun x hx => (con_bounds ⟨(h.shb x (h1 x hx)).2.2.1, (h.shb x (h1 x hx)).2.2.2⟩ _).2
    have h3 : sumL (G.ls k) (amts G) ≤ sumL G.ps (amts G) := by rw [h.ls]; exact sumL_filter_le _ h.amt_nonneg
    have := h.inv
    omega
  obtain ⟨e1, e2, e3, e4⟩ := more_new (G := G) (p := p) (c := c)
  have hs := shr_bounds (c := c) (P := []) (fun x hx => by cases hx) (by show (0 : Int) ≤ _; omega) (by omega) (1 + G.gone)
  refine ⟨by rw [e2]; simp, (by rw [e2]; exact (fun x hx => by cases hx)), by rw [e1, e2]; show (0 : Int) ≤ _; omega, by rw [e1]; exact ⟨by omega, by omega⟩, by rw [e1]; exact ⟨by omega, by omega⟩, h.gone, by rw [e4]; simp, by rw [e1]; exact hc.s2, ?_, fun j hj => ?_⟩
  · rw [e4, more_key]
    have := hb c.acc.data.toList 0
    have := h.invm
    show -9223372036854775808 ≤ G.nw c.acc.data.toList 0 - 0 ∧ G.nw c.acc.data.toList 0 - 0 ≤ 9223372036854775807
    omega
  · rw [e1, e2, more_key, more_nw, if_pos rfl]
    have h1 := hb c.acc.data.toList j
    have h2 := con_bounds (s := shr c [] (1 + G.gone)) (a := c.amt) ⟨hs.1, hs.2.1⟩ j
    show -9223372036854775808 ≤ G.nw c.acc.data.toList j + con (shr c [] (1 + G.gone)) j ∧ G.nw c.acc.data.toList j + con (shr c [] (1 + G.gone)) j ≤ 9223372036854775807
    omega
/-- the view with an invoice more -/
theorem Inv.kept {W w' : World} {d p : Nat} {G G' : Gh} {c : Cl} (h : Inv G) (hp : p ∉ G.ps) (hc : OkC c) (hm : G.inv + c.amt ≤ 9223372036854775807) (hk : G.kf c.key.data.toList = none) (hl : G.ps.length < 1000) (ho : KeepOut W w' d p (G.more p c) G') : Inv G' ∧ G'.ps.map G'.cl = G.ps.map G.cl ++ [c] ∧ G'.al = G.al ∧ G'.gone = G.gone := by
  obtain ⟨e1, e2, e3, e4⟩ := more_new (G := G) (p := p) (c := c)
  have hcl : ∀ x ∈ G.ps, G'.cl x = G.cl x ∧ G'.pt x = G.pt x ∧ G'.lf x = G.lf x ∧ G'.sh x = G.sh x := fun x hx => by
    have hne : x ≠ p := fun e => hp (by rw [← e]; exact hx)
    obtain ⟨m1, m2, m3, m4⟩ := more_old (G := G) (c := c) hne
    rw [ho.cl, ho.pt, ho.lf, ho.sh, m1, m2, m3]
    exact ⟨rfl, rfl, rfl, (if_neg hne).trans m4⟩
  have hcp : G'.cl p = c ∧ G'.pt p = [] ∧ G'.lf p = c.amt ∧ G'.sh p = shr c [] (1 + G.gone) := by
    rw [ho.cl, ho.pt, ho.lf, ho.sh, e1, e2, e3]
    exact ⟨rfl, rfl, rfl, if_pos rfl⟩
  have hps : G'.ps = G.ps ++ [p] := ho.ps
  have hmem : ∀ x, x ∈ G'.ps ↔ x ∈ G.ps ∨ x = p := fun x => by rw [hps]; simp
  have hky : ∀ x ∈ G.ps, G'.key x = G.key x := fun x hx => by unfold Gh.key; rw [(hcl x hx).1]
  have hkp : G'.key p = c.acc.data.toList := by unfold Gh.key; rw [hcp.1]
  have hkf : G'.kf = fun y => if y = c.key.data.toList then some p else G.kf y := by rw [ho.kf, e1]; rfl
  have hls : G'.ls = fun y => if y = c.acc.data.toList then G.ls y ++ [p] else G.ls y := by rw [ho.ls, more_key]; rfl
  have hg : G'.gone = G.gone := ho.gone
  have hal : G'.al = G.al := ho.al
  have hs := shr_bounds (c := c) (P := []) (fun x hx => by cases hx) (by show (0 : Int) ≤ _; have := hc.a1; omega) (by have := hc.a1; omega) (1 + G.gone)
  have hpt0 : ptsOf G.al c.key.data.toList = [] := by
    unfold ptsOf
    rw [List.map_eq_nil_iff, List.filter_eq_nil_iff]
    intro a ha e
    obtain ⟨_, _, x, hx, e2, _⟩ := h.al a ha
    have : G.kf c.key.data.toList = some x := (h.kf _ x).2 ⟨hx, by rw [e2]; simpa using e⟩
    rw [hk] at this
    cases this
  have hmap : G'.ps.map G'.cl = G.ps.map G.cl ++ [c] := by
    rw [hps, List.map_append, List.map_cons, List.map_nil, hcp.1]
    congr 1
    exact List.map_congr_left fun x hx => (hcl x hx).1
  refine ⟨{ pb := ?_, nd := ?_, km := ⟨fun e => absurd e ho.mb, fun e => absurd e ho.ma⟩, mp := fun e => absurd e ho.mb, kf := ?_, qa := ?_, ls := ?_, pt := ?_, lf := ?_, sum := ?_, ok := ?_, al := ?_, inv := ?_, invm := ?_, gone := by rw [hg]; exact h.gone, shb := ?_, nw := ?_, hp := ho.tm.2.1, ts := ?_, l1 := ?_, l2 := by rw [hal]; exact h.l2, l3 := ?_, l4 := ?_, l5 := ?_, sh := ?_, tc := ?_ }, hmap, hal, hg⟩
  · rw [hps, ho.bs, h.pb]; rfl
  · rw [hps, List.nodup_append]
    exact ⟨h.nd, by simp, fun a ha b hb => by rw [List.mem_singleton] at hb; subst hb; exact fun e => hp (by rw [← e]; exact ha)⟩
  · intro s x
    rw [hkf, hmem]
    by_cases es : s = c.key.data.toList
    · show (if s = c.key.data.toList then some p else G.kf s) = some x ↔ _
      rw [if_pos es]
      constructor
      · intro e; have e := Option.some.inj e; subst e; exact ⟨.inr rfl, by rw [hcp.1, es]⟩
      · rintro ⟨hx | hx, e⟩
        · rw [(hcl x hx).1] at e
          have : G.kf s = some x := (h.kf s x).2 ⟨hx, e⟩
          rw [es, hk] at this; cases this
        · rw [hx]
    · show (if s = c.key.data.toList then some p else G.kf s) = some x ↔ _
      rw [if_neg es, h.kf]
      constructor
      · rintro ⟨hx, e⟩; exact ⟨.inl hx, by rw [(hcl x hx).1]; exact e⟩
      · rintro ⟨hx | hx, e⟩
        · exact ⟨hx, by rw [← (hcl x hx).1]; exact e⟩
        · rw [hx, hcp.1] at e; exact absurd e.symm es
  · intro k
    rw [ho.qa k, more_key]
    have : (G.more p c).qa k ≠ none ↔ G.qa k ≠ none := Iff.rfl
    rw [this, h.qa]
    constructor
    · rintro (⟨x, hx, e⟩ | e)
      · exact ⟨x, (hmem x).2 (.inl hx), by rw [hky x hx]; exact e⟩
      · exact ⟨p, (hmem p).2 (.inr rfl), by rw [hkp, e]⟩
    · rintro ⟨x, hx, e⟩
      rcases (hmem x).1 hx with hx | hx
      · exact .inl ⟨x, hx, by rw [← hky x hx]; exact e⟩
      · right; rw [← e, hx, hkp]
  · intro k
    rw [hls, hps, List.filter_append]
    have e5 : List.filter (fun x => decide (G'.key x = k)) G.ps = G.ls k := by
      rw [h.ls]
      exact List.filter_congr fun x hx => by rw [hky x hx]
    rw [e5]
    show (if k = c.acc.data.toList then G.ls k ++ [p] else G.ls k) = _
    by_cases ek : k = c.acc.data.toList
    · rw [if_pos ek]; simp [hkp, ek]
    · rw [if_neg ek]
      have : ¬ c.acc.data.toList = k := fun e => ek e.symm
      simp [hkp, this]
  · intro x hx
    rcases (hmem x).1 hx with hx | hx
    · rw [(hcl x hx).2.1, (hcl x hx).1, hal]; exact h.pt x hx
    · rw [hx, hcp.2.1, hcp.1, hal, hpt0]
  · intro x hx
    rcases (hmem x).1 hx with hx | hx
    · rw [(hcl x hx).2.2.1, (hcl x hx).1, (hcl x hx).2.1]; exact h.lf x hx
    · rw [hx, hcp.2.2.1, hcp.1, hcp.2.1]; show _ = c.amt - 0; omega
  · intro x hx
    rcases (hmem x).1 hx with hx | hx
    · rw [(hcl x hx).1, (hcl x hx).2.1]; exact h.sum x hx
    · rw [hx, hcp.1, hcp.2.1]; show (0 : Int) ≤ _; have := hc.a1; omega
  · intro x hx
    rcases (hmem x).1 hx with hx | hx
    · rw [(hcl x hx).1]; exact h.ok x hx
    · rw [hx, hcp.1]; exact hc
  · intro a ha
    rw [hal] at ha
    obtain ⟨h1, h2, x, hx, h3, h4⟩ := h.al a ha
    exact ⟨h1, h2, x, (hmem x).2 (.inl hx), by rw [(hcl x hx).1]; exact h3, by rw [(hcl x hx).1]; exact h4⟩
  · have e6 : G'.inv = G.inv + c.amt := ho.inv
    rw [e6, hps, sumL_append, sumL_cons, sumL_nil, h.inv]
    have e7 : sumL G.ps (amts G') = sumL G.ps (amts G) := sumL_congr fun x hx => by unfold amts; rw [(hcl x hx).1]
    rw [e7]
    unfold amts
    rw [hcp.1]
    omega
  · have e6 : G'.inv = G.inv + c.amt := ho.inv
    rw [e6]; exact hm
  · intro x hx
    rcases (hmem x).1 hx with hx | hx
    · rw [(hcl x hx).2.2.2, (hcl x hx).1]; exact h.shb x hx
    · rw [hx, hcp.2.2.2, hcp.1]; exact ⟨hs.2.2.1, hs.2.2.2, hs.1, hs.2.1⟩
  · intro k j
    rw [ho.nw, e1, e2]
    have e8 : (G.more p c).gone = G.gone := rfl
    rw [e8, more_nw, hls]
    have e9 : sumL (G.ls k) (fun x => con (G'.sh x) j) = G.nw k j := by
      rw [h.nw]
      exact sumL_congr fun x hx => by rw [(hcl x (h.ls_mem hx).1).2.2.2]
    show _ = sumL (if k = c.acc.data.toList then G.ls k ++ [p] else G.ls k) _
    by_cases ek : k = c.acc.data.toList
    · rw [if_pos ek, if_pos ek, sumL_append, sumL_cons, sumL_nil, e9, hcp.2.2.2]; omega
    · rw [if_neg ek, if_neg ek, e9]
  · intro x hx
    rcases (ho.tm.1 x).1 hx with h1 | ⟨h1, _⟩
    · exact (hmem _).2 (.inl (h.ts x h1))
    · exact (hmem _).2 (.inr h1)
  · rw [hps]; simp; omega
  · have h1 := ho.tm.2.2
    have h2 : (G.more p c).tn = G.tn := rfl
    have h3 : (trn5 ((G.more p c).cl p)).length = 5 := rfl
    have h4 := h.l3
    rw [h2, h3] at h1
    rw [hps, hal, List.length_append]
    simp
    omega
  · have h1 := ho.nk
    have h2 : (G.more p c).nk = G.nk := rfl
    have h3 := h.l4
    rw [hps, List.length_append]
    simp
    omega
  · have h1 := ho.na
    have h2 : (G.more p c).na = G.na := rfl
    have h3 := h.l5
    rw [hps, List.length_append]
    simp
    omega
  · intro x hx
    rw [hg]
    rcases (hmem x).1 hx with hx | hx
    · rw [(hcl x hx).2.2.2, (hcl x hx).1, (hcl x hx).2.1]; exact h.sh x hx
    · rw [hx, hcp.2.2.2, hcp.1, hcp.2.1]
  · intro x hx t ht h1 h2
    rw [hg] at h1
    rcases (hmem x).1 hx with hx | hx
    · rw [(hcl x hx).1, (hcl x hx).2.1] at ht
      exact (ho.tm.1 (t, x)).2 (.inl (h.tc x hx t ht h1 h2))
    · rw [hx, hcp.1, hcp.2.1, trn5_is] at ht
      rw [hx]
      exact (ho.tm.1 (t, p)).2 (.inr ⟨rfl, by rw [e1]; exact ht, h1, h2⟩)
end Go.Proofs.YtildpgfhahmgmaaDoor
