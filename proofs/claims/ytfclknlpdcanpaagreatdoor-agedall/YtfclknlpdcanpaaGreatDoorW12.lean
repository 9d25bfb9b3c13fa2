import Derived.Test.YtfclknlpdcanpaaGreatDoorW11
/- aged: a view by its invoices and allotments; what an invoice more makes. -/
namespace Go.Proofs.YtfclknlpdcanpaaGreatDoor
open Go Go.Shelf Go.ChangeShapes Go.WideShapes Go.ChangeAt Go.RowKit Go.Maps
set_option linter.unusedVariables false
/-- the view that took these -/
structure Vw (W : World) (d : Nat) (S : Nat → Prop) (C : List Cl) (A : List Al) (g : Int) : Prop where
  ex : ∃ G, Inv G ∧ Raw W d G ∧ G.ps.map G.cl = C ∧ G.al = A ∧ G.gone = g ∧ ∀ b, G.own d b → S b
  lt : ∀ b, S b → b < W.heap.size
  z : ¬ S 0
theorem Vw.keep {W W' : World} {d : Nat} {S : Nat → Prop} {C : List Cl} {A : List Al} {g : Int} (h : Vw W d S C A g) (hs : W.heap.size ≤ W'.heap.size) (hk : ∀ b, S b → W'.heap[b]? = W.heap[b]?) : Vw W' d S C A g := by
  obtain ⟨G, h1, h2, h3, h4, h5, h6⟩ := h.ex
  exact ⟨⟨G, h1, h2.keep (fun b hb => hk b (h6 b hb)), h3, h4, h5, h6⟩, fun b hb => Nat.lt_of_lt_of_le (h.lt b hb) hs, h.z⟩
theorem Vw.below {W W' : World} {d : Nat} {S : Nat → Prop} {C : List Cl} {A : List Al} {g : Int} (h : Vw W d S C A g) (hb : Below W.heap.size W W') : Vw W' d S C A g := h.keep hb.size fun b hs => hb.block b (h.lt b hs)
/-- a view beside one that changes -/
theorem Vw.fr {W W' : World} {d : Nat} {S X : Nat → Prop} {C : List Cl} {A : List Al} {g : Int} (h : Vw W d S C A g) (hf : Fr W W' X) (hx : ∀ b, S b → ¬ X b) : Vw W' d S C A g := h.keep hf.size fun b hs => hf.block b (h.lt b hs) (hx b hs)
/-- what a changing call leaves -/
def VwNext (W w' : World) (d : Nat) (S : Nat → Prop) (C : List Cl) (A : List Al) (g : Int) : Prop := ∃ S', Vw w' d S' C A g ∧ Fr W w' S ∧ ∀ b, S' b → S b ∨ W.heap.size ≤ b
theorem vw_next {W w' : World} {d : Nat} {S : Nat → Prop} {G G' : Gh} {C : List Cl} {A : List Al} {g : Int} (hn : Next W w' d G G') (hS : ∀ b, G.own d b → S b) (hz : ¬ S 0) (h0 : 0 < W.heap.size) (hi : Inv G') (h1 : G'.ps.map G'.cl = C) (h2 : G'.al = A) (h3 : G'.gone = g) : VwNext W w' d S C A g := by
  refine ⟨G'.own d, ⟨⟨G', hi, hn.raw, h1, h2, h3, fun b hb => hb⟩, fun b hb => hn.raw.lt hb, fun hb => ?_⟩, hn.fr.mono (fun i _ hx => hS i hx), fun b hb => (hn.own b hb).imp (hS b) id⟩
  rcases hn.own 0 hb with h | h
  · exact hz (hS 0 h)
  · omega
def sumC (C : List Cl) : Int := C.foldr (fun c x => c.amt + x) 0
theorem sumC_append (C D : List Cl) : sumC (C ++ D) = sumC C + sumC D := by
  induction C with
  | nil => rw [List.nil_append]; show _ = 0 + _; omega
  | cons c C ih => rw [List.cons_append]; show c.amt + sumC (C ++ D) = c.amt + sumC C + _; rw [ih]; omega
theorem sumC_map (l : List Nat) (f : Nat → Cl) : sumC (l.map f) = sumL l (fun p => (f p).amt) := by
  induction l with
  | nil => rfl
  | cons p l ih => rw [List.map_cons, sumL_cons, ← ih]; rfl
theorem Inv0.total {G : Gh} (h : Inv0 G) : G.inv = sumC (G.ps.map G.cl) := by rw [h.inv, sumC_map]; rfl
/-- is there an invoice of this key? -/
def has (C : List Cl) (s : List UInt8) : Bool := C.any fun c => decide (c.key.data.toList = s)
theorem has_iff {C : List Cl} {s : List UInt8} : has C s = true ↔ ∃ c ∈ C, c.key.data.toList = s := by simp [has]
theorem Inv0.has {G : Gh} (h : Inv0 G) (s : List UInt8) : has (G.ps.map G.cl) s = true ↔ G.kf s ≠ none := by
  rw [has_iff]
  constructor
  · rintro ⟨c, hc, e⟩
    obtain ⟨p, hp, rfl⟩ := List.mem_map.1 hc
    rw [(h.kf s p).2 ⟨hp, e⟩]
    exact fun e => by cases e
  · intro hk
    obtain ⟨p, hp⟩ := some_of hk
    have := (h.kf s p).1 hp
    exact ⟨G.cl p, List.mem_map.2 ⟨p, this.1, rfl⟩, this.2⟩
/-- what Invoice answers -/
def invS (C : List Cl) (c : Cl) : Int :=
  if ¬ (dayB c.day = true ∧ dayB c.due = true ∧ ¬ c.due < c.day ∧ ¬ c.amt < 1) then 1
  else if C.length = 1000 then 2
  else if has C c.key.data.toList = true then 70
  else if sumC C + c.amt > 9223372036854775807 then 11
  else 0
/-- the view as it is handed to keep -/
def Gh.more (G : Gh) (p : Nat) (c : Cl) : Gh := ({ G with inv := G.inv + c.amt } : Gh).reg p c
theorem more_old {G : Gh} {p : Nat} {c : Cl} {x : Nat} (h : x ≠ p) : (G.more p c).cl x = G.cl x ∧ (G.more p c).pt x = G.pt x ∧ (G.more p c).lf x = G.lf x ∧ (G.more p c).sh x = G.sh x := by simp [Gh.more, Gh.reg, h]
theorem more_new {G : Gh} {p : Nat} {c : Cl} : (G.more p c).cl p = c ∧ (G.more p c).pt p = [] ∧ (G.more p c).lf p = c.amt ∧ (G.more p c).sh p = (0, 0) := by simp [Gh.more, Gh.reg]
theorem more_key {G : Gh} {p : Nat} {c : Cl} : (G.more p c).key p = c.acc.data.toList := by unfold Gh.key; rw [more_new.1]
theorem ls_len {G : Gh} (h : Inv0 G) (k : List UInt8) : (G.ls k).length ≤ G.ps.length := by rw [h.ls]; exact List.length_filter_le _ _
theorem more_nw {G : Gh} {p : Nat} {c : Cl} (s : Int × Int) (k : List UInt8) (j : Nat) : ((G.more p c).shown p s).nw k j = if k = c.acc.data.toList then G.nw k j + con s j else G.nw k j := by
  have e0 : (if (j : Int) = ((G.more p c).sh p).1 then ((G.more p c).sh p).2 else 0) = 0 := by rw [more_new.2.2.2]; split <;> rfl
  show (if k = (G.more p c).key p then (G.nw k j - (if (j : Int) = ((G.more p c).sh p).1 then ((G.more p c).sh p).2 else 0)) + (if (j : Int) = s.1 then s.2 else 0) else G.nw k j) = _
  rw [more_key, e0, Int.sub_zero]
  rfl
theorem Inv0.moreOK {G : Gh} (h : Inv0 G) {p : Nat} {c : Cl} (hc : OkC c) (hm : G.inv + c.amt ≤ 9223372036854775807) : ShowOK (G.more p c) p := by
  have hd1 := hc.d1; have hd2 := hc.d2; have hd3 := hc.d3; have ha1 := hc.a1; have ha2 := hc.a2
  have hb : ∀ k j, 0 ≤ G.nw k j ∧ G.nw k j ≤ G.inv := fun k j => by
    rw [h.nw]
    have h1 : ∀ x ∈ G.ls k, x ∈ G.ps := fun x hx => (h.ls_mem hx).1
    refine ⟨sumL_nonneg fun x hx => (con_bounds ⟨(h.shb x (h1 x hx)).2.2.1, (h.shb x (h1 x hx)).2.2.2⟩ _).1, ?_⟩
    have h2 : sumL (G.ls k) (fun x => con (G.sh x) j) ≤ sumL (G.ls k) (amts G) := sumL_le fun x hx => (con_bounds ⟨(h.shb x (h1 x hx)).2.2.1, (h.shb x (h1 x hx)).2.2.2⟩ _).2
    have h3 : sumL (G.ls k) (amts G) ≤ sumL G.ps (amts G) := by rw [h.ls]; exact sumL_filter_le _ h.amt_nonneg
    have := h.inv
    omega
  obtain ⟨e1, e2, e3, e4⟩ := more_new (G := G) (p := p) (c := c)
  have hs := shr_bounds (c := c) (P := []) (fun x hx => by cases hx) (by show (0 : Int) ≤ _; omega) (by omega) (1 + G.gone)
  refine ⟨by rw [e2]; simp, (by rw [e2]; exact (fun x hx => by cases hx)), by rw [e1, e2]; show (0 : Int) ≤ _; omega, by rw [e1]; exact ⟨by omega, by omega⟩, by rw [e1]; exact ⟨by omega, by omega⟩, h.gone, by rw [e4]; simp, by rw [e1]; exact hc.s2, ?_, fun j hj => ?_⟩
  · rw [e4, more_key]
    have := hb c.acc.data.toList 0
    have := h.invm
    show -9223372036854775808 ≤ G.nw c.acc.data.toList 0 - 0 ∧ G.nw c.acc.data.toList 0 - 0 ≤ 9223372036854775807
    omega
  · rw [e1, e2, more_key, more_nw, if_pos rfl]
    have h1 := hb c.acc.data.toList j
    have h2 := con_bounds (s := shr c [] (1 + G.gone)) (a := c.amt) ⟨hs.1, hs.2.1⟩ j
    show -9223372036854775808 ≤ G.nw c.acc.data.toList j + con (shr c [] (1 + G.gone)) j ∧ G.nw c.acc.data.toList j + con (shr c [] (1 + G.gone)) j ≤ 9223372036854775807
    omega
/-- the view with an invoice more -/
theorem Inv.kept {W w' : World} {d p : Nat} {G G' : Gh} {c : Cl} (h : Inv G) (hp : p ∉ G.ps) (hc : OkC c) (hm : G.inv + c.amt ≤ 9223372036854775807) (hk : G.kf c.key.data.toList = none) (hl : G.ps.length < 1000) (ho : KeepOut W w' d p (G.more p c) G') : Inv G' ∧ G'.ps.map G'.cl = G.ps.map G.cl ++ [c] ∧ G'.al = G.al ∧ G'.gone = G.gone := by
  obtain ⟨e1, e2, e3, e4⟩ := more_new (G := G) (p := p) (c := c)
  have hcl : ∀ x ∈ G.ps, G'.cl x = G.cl x ∧ G'.pt x = G.pt x ∧ G'.lf x = G.lf x ∧ G'.sh x = G.sh x := fun x hx => by
    have hne : x ≠ p := fun e => hp (by rw [← e]; exact hx)
    obtain ⟨m1, m2, m3, m4⟩ := more_old (G := G) (c := c) hne
    rw [ho.cl, ho.pt, ho.lf, ho.sh, m1, m2, m3]
    exact ⟨rfl, rfl, rfl, (if_neg hne).trans m4⟩
  have hcp : G'.cl p = c ∧ G'.pt p = [] ∧ G'.lf p = c.amt ∧ G'.sh p = shr c [] (1 + G.gone) := by
    rw [ho.cl, ho.pt, ho.lf, ho.sh, e1, e2, e3]
    exact ⟨rfl, rfl, rfl, if_pos rfl⟩
  have hps : G'.ps = G.ps ++ [p] := ho.ps
  have hmem : ∀ x, x ∈ G'.ps ↔ x ∈ G.ps ∨ x = p := fun x => by rw [hps]; simp
  have hky : ∀ x ∈ G.ps, G'.key x = G.key x := fun x hx => by unfold Gh.key; rw [(hcl x hx).1]
  have hkp : G'.key p = c.acc.data.toList := by unfold Gh.key; rw [hcp.1]
  have hkf : G'.kf = fun y => if y = c.key.data.toList then some p else G.kf y := by rw [ho.kf, e1]; rfl
  have hls : G'.ls = fun y => if y = c.acc.data.toList then G.ls y ++ [p] else G.ls y := by rw [ho.ls, more_key]; rfl
  have hg : G'.gone = G.gone := ho.gone
  have hal : G'.al = G.al := ho.al
  have hs := shr_bounds (c := c) (P := []) (fun x hx => by cases hx) (by show (0 : Int) ≤ _; have := hc.a1; omega) (by have := hc.a1; omega) (1 + G.gone)
  have hpt0 : ptsOf G.al c.key.data.toList = [] := by
    unfold ptsOf
    rw [List.map_eq_nil_iff, List.filter_eq_nil_iff]
    intro a ha e
    obtain ⟨_, _, x, hx, e2, _⟩ := h.al a ha
    have : G.kf c.key.data.toList = some x := (h.kf _ x).2 ⟨hx, by rw [e2]; simpa using e⟩
    rw [hk] at this
    cases this
  have hmap : G'.ps.map G'.cl = G.ps.map G.cl ++ [c] := by
    rw [hps, List.map_append, List.map_cons, List.map_nil, hcp.1]
    congr 1
    exact List.map_congr_left fun x hx => (hcl x hx).1
  refine ⟨{ pb := ?_, nd := ?_, km := ⟨fun e => absurd e ho.mb, fun e => absurd e ho.ma⟩, mp := fun e => absurd e ho.mb, kf := ?_, qa := ?_, ls := ?_, pt := ?_, lf := ?_, sum := ?_, ok := ?_, al := ?_, inv := ?_, invm := ?_, gone := by rw [hg]; exact h.gone, shb := ?_, nw := ?_, hp := ho.tm.2.1, ts := ?_, l1 := ?_, l2 := by rw [hal]; exact h.l2, l3 := ?_, l4 := ?_, l5 := ?_, sh := ?_, tc := ?_ }, hmap, hal, hg⟩
  · rw [hps, ho.bs, h.pb]; rfl
  · rw [hps, List.nodup_append]
    exact ⟨h.nd, by simp, fun a ha b hb => by rw [List.mem_singleton] at hb; subst hb; exact fun e => hp (by rw [← e]; exact ha)⟩
  · intro s x
    rw [hkf, hmem]
    by_cases es : s = c.key.data.toList
    · show (if s = c.key.data.toList then some p else G.kf s) = some x ↔ _
      rw [if_pos es]
      constructor
      · intro e; have e := Option.some.inj e; subst e; exact ⟨.inr rfl, by rw [hcp.1, es]⟩
      · rintro ⟨hx | hx, e⟩
        · rw [(hcl x hx).1] at e
          have : G.kf s = some x := (h.kf s x).2 ⟨hx, e⟩
          rw [es, hk] at this; cases this
        · rw [hx]
    · show (if s = c.key.data.toList then some p else G.kf s) = some x ↔ _
      rw [if_neg es, h.kf]
      constructor
      · rintro ⟨hx, e⟩; exact ⟨.inl hx, by rw [(hcl x hx).1]; exact e⟩
      · rintro ⟨hx | hx, e⟩
        · exact ⟨hx, by rw [← (hcl x hx).1]; exact e⟩
        · rw [hx, hcp.1] at e; exact absurd e.symm es
  · intro k
    rw [ho.qa k, more_key]
    have : (G.more p c).qa k ≠ none ↔ G.qa k ≠ none := Iff.rfl
    rw [this, h.qa]
    constructor
    · rintro (⟨x, hx, e⟩ | e)
      · exact ⟨x, (hmem x).2 (.inl hx), by rw [hky x hx]; exact e⟩
      · exact ⟨p, (hmem p).2 (.inr rfl), by rw [hkp, e]⟩
    · rintro ⟨x, hx, e⟩
      rcases (hmem x).1 hx with hx | hx
      · exact .inl ⟨x, hx, by rw [← hky x hx]; exact e⟩
      · right; rw [← e, hx, hkp]
  · intro k
    rw [hls, hps, List.filter_append]
    have e5 : List.filter (fun x => decide (G'.key x = k)) G.ps = G.ls k := by
      rw [h.ls]
      exact List.filter_congr fun x hx => by rw [hky x hx]
    rw [e5]
    show (if k = c.acc.data.toList then G.ls k ++ [p] else G.ls k) = _
    by_cases ek : k = c.acc.data.toList
    · rw [if_pos ek]; simp [hkp, ek]
    · rw [if_neg ek]
      have : ¬ c.acc.data.toList = k := fun e => ek e.symm
      simp [hkp, this]
  · intro x hx
    rcases (hmem x).1 hx with hx | hx
    · rw [(hcl x hx).2.1, (hcl x hx).1, hal]; exact h.pt x hx
    · rw [hx, hcp.2.1, hcp.1, hal, hpt0]
  · intro x hx
    rcases (hmem x).1 hx with hx | hx
    · rw [(hcl x hx).2.2.1, (hcl x hx).1, (hcl x hx).2.1]; exact h.lf x hx
    · rw [hx, hcp.2.2.1, hcp.1, hcp.2.1]; show _ = c.amt - 0; omega
  · intro x hx
    rcases (hmem x).1 hx with hx | hx
    · rw [(hcl x hx).1, (hcl x hx).2.1]; exact h.sum x hx
    · rw [hx, hcp.1, hcp.2.1]; show (0 : Int) ≤ _; have := hc.a1; omega
  · intro x hx
    rcases (hmem x).1 hx with hx | hx
    · rw [(hcl x hx).1]; exact h.ok x hx
    · rw [hx, hcp.1]; exact hc
  · intro a ha
    rw [hal] at ha
    obtain ⟨h1, h2, x, hx, h3, h4⟩ := h.al a ha
    exact ⟨h1, h2, x, (hmem x).2 (.inl hx), by rw [(hcl x hx).1]; exact h3, by rw [(hcl x hx).1]; exact h4⟩
  · have e6 : G'.inv = G.inv + c.amt := ho.inv
    rw [e6, hps, sumL_append, sumL_cons, sumL_nil, h.inv]
    have e7 : sumL G.ps (amts G') = sumL G.ps (amts G) := sumL_congr fun x hx => by unfold amts; rw [(hcl x hx).1]
    rw [e7]
    unfold amts
    rw [hcp.1]
    omega
  · have e6 : G'.inv = G.inv + c.amt := ho.inv
    rw [e6]; exact hm
  · intro x hx
    rcases (hmem x).1 hx with hx | hx
    · rw [(hcl x hx).2.2.2, (hcl x hx).1]; exact h.shb x hx
    · rw [hx, hcp.2.2.2, hcp.1]; exact ⟨hs.2.2.1, hs.2.2.2, hs.1, hs.2.1⟩
  · intro k j
    rw [ho.nw, e1, e2]
    have e8 : (G.more p c).gone = G.gone := rfl
    rw [e8, more_nw, hls]
    have e9 : sumL (G.ls k) (fun x => con (G'.sh x) j) = G.nw k j := by
      rw [h.nw]
      exact sumL_congr fun x hx => by rw [(hcl x (h.ls_mem hx).1).2.2.2]
    show _ = sumL (if k = c.acc.data.toList then G.ls k ++ [p] else G.ls k) _
    by_cases ek : k = c.acc.data.toList
    · rw [if_pos ek, if_pos ek, sumL_append, sumL_cons, sumL_nil, e9, hcp.2.2.2]; omega
    · rw [if_neg ek, if_neg ek, e9]
  · intro x hx
    rcases (ho.tm.1 x).1 hx with h1 | ⟨h1, _⟩
    · exact (hmem _).2 (.inl (h.ts x h1))
    · exact (hmem _).2 (.inr h1)
  · rw [hps]; simp; omega
  · have h1 := ho.tm.2.2
    have h2 : (G.more p c).tn = G.tn := rfl
    have h3 : (trn5 ((G.more p c).cl p)).length = 5 := rfl
    have h4 := h.l3
    rw [h2, h3] at h1
    rw [hps, hal, List.length_append]
    simp
    omega
  · have h1 := ho.nk
    have h2 : (G.more p c).nk = G.nk := rfl
    have h3 := h.l4
    rw [hps, List.length_append]
    simp
    omega
  · have h1 := ho.na
    have h2 : (G.more p c).na = G.na := rfl
    have h3 := h.l5
    rw [hps, List.length_append]
    simp
    omega
  · intro x hx
    rw [hg]
    rcases (hmem x).1 hx with hx | hx
    · rw [(hcl x hx).2.2.2, (hcl x hx).1, (hcl x hx).2.1]; exact h.sh x hx
    · rw [hx, hcp.2.2.2, hcp.1, hcp.2.1]
  · intro x hx t ht h1 h2
    rw [hg] at h1
    rcases (hmem x).1 hx with hx | hx
    · rw [(hcl x hx).1, (hcl x hx).2.1] at ht
      exact (ho.tm.1 (t, x)).2 (.inl (h.tc x hx t ht h1 h2))
    · rw [hx, hcp.1, hcp.2.1, trn5_is] at ht
      rw [hx]
      exact (ho.tm.1 (t, p)).2 (.inr ⟨rfl, by rw [e1]; exact ht, h1, h2⟩)
end Go.Proofs.YtfclknlpdcanpaaGreatDoor
/- aged: keep (45), the account is there. -/
namespace Go.Proofs.YtfclknlpdcanpaaGreatDoor
open Go Go.Shelf Go.ChangeShapes Go.WideShapes Go.ChangeAt Go.RowKit Go.Maps
set_option linter.unusedVariables false
set_option maxRecDepth 100000 in
set_option maxHeartbeats 8000000 in
theorem keep_has {W : World} {d p q : Nat} {G : Gh} (HI : KeepIn W d p G) (hq : G.qa (G.key p) = some q) :
    Calls Tryz.prog 103 #[ptr d, ptr p] W fun e w' => e = .returned (.tuple #[]) ∧ KeptOut W w' d p G := by
  obtain ⟨b2, hb2⟩ : ∃ b, G.ma = some b := by
    cases hma : G.ma with
    | none => rw [HI.raw.an hma] at hq; cases hq
    | some b => exact ⟨b, rfl⟩
  obtain ⟨b1, hb1⟩ : ∃ b, G.mb = some b := some_of (fun e => by rw [HI.km.1 e] at hb2; cases hb2)
  obtain ⟨k, hk⟩ : ∃ k, k = G.key p := ⟨_, rfl⟩
  have d1 : W.cell? ⟨d, 1, none⟩ = some (.map (some b1)) := by simp [World.cell?, HI.raw.ob, Gh.agV, hb1]
  have d2 : W.drew.cell? ⟨d, 2, none⟩ = some (.map (some b2)) := by
    show W.cell? _ = _
    simp [World.cell?, HI.raw.ob, Gh.agV, hb2]
  have hcb := HI.raw.cb p HI.mem
  have p1 : W.drew.cell? ⟨p, 1, none⟩ = some (.string (G.cl p).acc) := by
    show W.cell? _ = _
    simp [World.cell?, hcb, Gh.clV]
  have hlk : (Instr.lookup 96 (.map (some b2)) (.string (G.cl p).acc) false).run Tryz.prog W.drew = .ok (ptr q) W.drew := by
    have h1 := ((HI.raw.am b2 hb2).keep (w' := W.drew) rfl).look (t := 96) und79 (zero89 _) HI.ok.sz
    have h2 : G.qa (G.cl p).acc.data.toList = some q := hq
    rw [h2] at h1
    exact h1
  have hrD : Raw W.drew d G := HI.raw.keep (fun _ _ => rfl)
  have NW0 : Next W W.drew d G G := ⟨hrD, (Fr.refl W _).drew, fun b hb => .inl hb⟩
  obtain ⟨p6, c6, n6, w6, p7, c7, n7, w7, w8, G8, T8⟩ := tail8 (p := p) (k := k) hrD (by rw [hk]; exact hq) hb1 HI.mem (by rw [hk]; exact HI.l2) HI.l1 HI.l4 HI.ksz
  have K8 := T8.kept
  have N8 : Next W w8 d G G8 := NW0.trans T8.next
  have hz8 : Stp w8 := HI.st.keep (N8.fr.block 0 HI.st.lt HI.z)
  have dT := hide (turns_any (W := w8) (p := p) (c := G.cl p) (x5 := .int .i64 (G8.lf p)) (x6 := G8.pv p) (x7 := .int .i64 (G8.sh p).1) (x8 := .int .i64 (G8.sh p).2) (by
    rw [N8.raw.cb p (by rw [K8.bs]; exact HI.mem)]
    unfold Gh.clV
    rw [K8.cl]) hz8 HI.ok.due)
  unfold ptr at dT hlk ⊢
  have RM : Raw W d G := HI.raw
  have he1 := eqm_some b1
  have HQ : Hid (G.qa k = some q) := by show _ = _; rw [hk]; exact hq
  have HMB : Hid (G.mb ≠ none) := ne_none hb1
  have HMA : Hid (G.ma ≠ none) := ne_none hb2
  go_enter Tryz.func103, Tryz.ntmps103
  go_wp2_with fail
  refine wp_region_last (n := 11) (S := fun W' => W'.cell? ⟨d, 2, none⟩ = some (.map (some b2)) ∧ W'.cell? ⟨p, 1, none⟩ = some (.string (G.cl p).acc) ∧ (Instr.lookup 96 (.map (some b2)) (.string (G.cl p).acc) false).run Tryz.prog W' = .ok (.pointer (some ⟨q, 0, none⟩)) W') (by kernel_rfl) (by exact ⟨d2, p1, hlk⟩) (fun hHeld => ?_)
  refine tkW 0 ?_; refine tkW 1 ?_; refine tkW 2 ?_; refine tkN 3 ?_; refine tkW 4 ?_; refine tkW 5 ?_; refine tkW 6 ?_; refine tkW 7 ?_; refine tkN 8 ?_; refine tkN 9 ?_; refine tkW 10 ?_
  refine wpAnyL_done (by kernel_rfl) ?_
  clear hHeld d2 p1 hlk
  have r6 := T8.r6; have l6 := T8.l6; have m6 := T8.m6; have f6 := T8.f6; have r7 := T8.r7; have l7 := T8.l7; have m7 := T8.m7; have f7 := T8.f7; have m1 := T8.m1; have m0 := T8.m0; have r8 := T8.r8
  have HK8 := hide K8; have HN8 := hide N8; have HII := hide HI; have HST8 := hide hz8; have HHK := hide hk
  obtain ⟨V, hV⟩ : ∃ V, V = W.drew := ⟨_, rfl⟩
  rw [← hV] at r6 l6 ⊢
  clear hV
  clear T8 K8 N8 HI hz8 hk NW0 hrD hq hb1 hb2 hcb
  go_upto_region 7 with (refine wpList_append_run rfl _ _ _ rfl _ _ _ _ rfl rfl r6 ?_)
  clear r6 l6 m6 f6
  obtain ⟨V6, hV6⟩ : ∃ V6, V6 = w6.setCell ⟨q, 0, none⟩ (.slice p6 n6 c6) := ⟨_, rfl⟩
  have hV6s : w6.heap.size = V6.heap.size := by rw [hV6]; simp
  rw [← hV6] at r7 l7 ⊢
  rw [hV6s] at r7
  clear hV6 hV6s
  go_upto_region 8 with (refine wpList_append_run rfl _ _ _ rfl _ _ _ _ rfl rfl r7 ?_)
  clear r7 l7 m7 f7
  refine wp_region_last (n := 10) (S := fun W' => W'.cell? ⟨d, 1, none⟩ = some (.map (some b1)) ∧ W'.cell? ⟨p, 0, none⟩ = some (.string (G.cl p).key) ∧ W' = (w7.setCell ⟨d, 0, none⟩ (.slice p7 n7 c7)).drew) (by kernel_rfl) (by exact ⟨m1, m0, rfl⟩) (fun hHeld => ?_)
  refine tkW 0 ?_; refine tkW 1 ?_; refine tkW 2 ?_; refine tkS 3 ?_; refine tkW 4 ?_; refine tkW 5 ?_; refine tkW 6 ?_; refine tkW 7 ?_; refine tkS 8 ?_; refine tkW 9 ?_
  clear hHeld
  obtain ⟨V7, hV7⟩ : ∃ V7, V7 = (w7.setCell ⟨d, 0, none⟩ (.slice p7 n7 c7)).drew := ⟨_, rfl⟩
  rw [← hV7] at r8 m1 m0 ⊢
  clear hV7
  refine wpAnyL_past (i := 10) (by kernel_rfl) rfl (by kernel_rfl) (fun KK hK => ?_)
  go_simp
  refine hK.out _ _ ?_
  clear hK KK
  refine wpAnyL_done (by kernel_rfl) ?_
  clear r8 m1 m0
  go_wp2_with fail
  refine (unhide dT).mono ?_
  rintro e w9 ⟨v9, rfl, hT9⟩
  obtain ⟨p9, c9, rfl, hn9, hs9⟩ := row_slice hT9.row
  have hN8 := unhide HN8; have hK8 := unhide HK8; have hII := unhide HII
  have hr9 : Raw w9 d G8 := hN8.raw.below hT9.bel
  have dF := hide (follow_any (W := w9) (d := d) (p := p) (q := q) (G := G8) hr9 (by rw [hK8.bs]; exact hII.mem) (by
    have e : G8.key p = G.key p := by unfold Gh.key; rw [hK8.cl]
    rw [e, hK8.qa, ← unhide HHK]; exact unhide HQ) ((unhide HST8).below hT9.bel) (fun hx => (hN8.own 0 hx).elim hII.z (fun h => by have := hII.st.lt; omega)) (hII.ok.of (by rw [hK8.cl]) (by rw [hK8.pt]) (by rw [hK8.sh]) (by rw [hK8.gone]) (by rw [hK8.nw])) (by rw [hK8.tn]; exact hII.hp) (pd := p9) (nd := 5) (cd := c9) (L := trn5 (G.cl p)) (own_lies kI_ok rfl hT9.row) rfl (fun b off e hx => by
    have h1 := (hs9 _ e).2.2.1
    have h2 := hN8.raw.lt hx
    have h3 : w8.heap.size ≤ b := h1
    omega) (by rw [hK8.tn]; have := hII.l3; show G.tn.length + 5 ≤ 1000000; omega))
  unfold ptr at dF
  have HB9 := hide hT9.bel
  clear hT9 hn9 hs9 hr9 hN8 hK8 hII dT
  go_wp2_with fail
  refine (unhide dF).mono ?_
  rintro e w10 ⟨rfl, hF⟩
  have HFIN : Hid (KeptOut W w10 d p G) := by
    have hN8 := unhide HN8; have hK8 := unhide HK8
    obtain ⟨vt', H', hM, hNx⟩ := hF
    have eC : G8.cl = G.cl := by rw [hK8.cl]
    have eP : G8.pt = G.pt := by rw [hK8.pt]
    have eG : G8.gone = G.gone := by rw [hK8.gone]
    have eS : G8.sh = G.sh := by rw [hK8.sh]
    have eN : G8.nw = G.nw := by rw [hK8.nw]
    have eT : G8.tn = G.tn := by rw [hK8.tn]
    have eK : G8.key p = G.key p := by unfold Gh.key; rw [eC]
    refine ⟨_, { next := (hN8.below (unhide HB9)).trans hNx, bs := by show G8.bs = _; rw [hK8.bs], cl := eC, lf := by show G8.lf = _; rw [hK8.lf], pt := eP, pv := by show G8.pv = _; rw [hK8.pv], al := by show G8.al = _; rw [hK8.al], inv := by show G8.inv = _; rw [hK8.inv], gone := eG, ps := by show G8.ps = _; rw [hK8.ps], kf := by show G8.kf = _; rw [hK8.kf], qa := fun y => by show G8.qa y ≠ none ↔ _; rw [hK8.qa]; exact ⟨.inl, fun h => h.elim id (fun e => by rw [e, ← unhide HHK]; exact ne_none (unhide HQ))⟩, ls := by show G8.ls = _; rw [hK8.ls, ← unhide HHK]; funext y; by_cases e : y = k <;> simp [e], sh := ?_, nw := ?_, tm := ?_, mb := by show G8.mb ≠ none; rw [hK8.mb]; exact unhide HMB, ma := by show G8.ma ≠ none; rw [hK8.ma]; exact unhide HMA, nk := by show G8.nk ≤ _; rw [hK8.nk]; omega, na := by show G8.na ≤ _; rw [hK8.na]; omega }⟩
    · show (fun x => if x = p then shr (G8.cl p) (G8.pt p) (1 + G8.gone) else G8.sh x) = _
      rw [eC, eP, eG, eS]
    · unfold Gh.shown
      simp only [Gh.key, eC, eP, eG, eS, eN]
      rfl
    · refine ⟨fun x => ?_, hM.2.1, ?_⟩
      · have := hM.1 x
        rw [eT, eG] at this
        exact this
      · have := hM.2.2
        rw [eT] at this
        exact this
  clear hF dF
  go_wp2_with fail
  go_end0
  exact ⟨rfl, unhide HFIN⟩
end Go.Proofs.YtfclknlpdcanpaaGreatDoor
/- aged: keep (45), the account is new. -/
namespace Go.Proofs.YtfclknlpdcanpaaGreatDoor
open Go Go.Shelf Go.ChangeShapes Go.WideShapes Go.ChangeAt Go.RowKit Go.Maps
set_option linter.unusedVariables false
set_option maxRecDepth 100000 in
set_option maxHeartbeats 8000000 in
theorem keep_new {W : World} {d p b1 : Nat} {G : Gh} (HI : KeepIn W d p G) (hb1 : G.mb = some b1) (hq : G.qa (G.key p) = none) :
    Calls Tryz.prog 103 #[ptr d, ptr p] W fun e w' => e = .returned (.tuple #[]) ∧ KeptOut W w' d p G := by
  obtain ⟨b2, hb2⟩ : ∃ b, G.ma = some b := some_of (fun e => by rw [HI.km.2 e] at hb1; cases hb1)
  obtain ⟨k, hk⟩ : ∃ k, k = G.key p := ⟨_, rfl⟩
  have d1 : W.cell? ⟨d, 1, none⟩ = some (.map (some b1)) := by simp [World.cell?, HI.raw.ob, Gh.agV, hb1]
  have d2 : W.drew.cell? ⟨d, 2, none⟩ = some (.map (some b2)) := by
    show W.cell? _ = _
    simp [World.cell?, HI.raw.ob, Gh.agV, hb2]
  have hcb := HI.raw.cb p HI.mem
  have p1 : W.drew.cell? ⟨p, 1, none⟩ = some (.string (G.cl p).acc) := by
    show W.cell? _ = _
    simp [World.cell?, hcb, Gh.clV]
  have hlk : (Instr.lookup 96 (.map (some b2)) (.string (G.cl p).acc) false).run Tryz.prog W.drew = .ok (.pointer none) W.drew := by
    have h1 := ((HI.raw.am b2 hb2).keep (w' := W.drew) rfl).look (t := 96) und79 (zero89 _) HI.ok.sz
    have h2 : G.qa (G.cl p).acc.data.toList = none := hq
    rw [h2] at h1
    exact h1
  have hrD : Raw W.drew d G := HI.raw.keep (fun _ _ => rfl)
  have NW0 : Next W W.drew d G G := ⟨hrD, (Fr.refl W _).drew, fun b hb => .inl hb⟩
  obtain ⟨Q, hQ⟩ : ∃ Q, Q = W.heap.size := ⟨_, rfl⟩
  obtain ⟨w5, r5, hn5⟩ := step5 (s := (G.cl p).acc) hrD hb2 HI.l5 HI.ok.sz hq
  have hn5 : Next W.drew w5 d G (G.acct k Q) := by rw [hk, hQ]; exact hn5
  have hpd : p ≠ d := fun e => by have h1 := HI.raw.tyB HI.mem; rw [e, HI.raw.tyD] at h1; cases h1
  have r5 : (Instr.mapUpdate 96 (.map (some b2)) (.string (G.cl p).acc) (.pointer (some ⟨Q, 0, none⟩))).run Tryz.prog (W.drew.alloc (.cells #[.slice none 0 0, .int .i64 0, .int .i64 0, .int .i64 0, .int .i64 0, .int .i64 0] 120)).drew = .ok () w5 := by rw [hQ]; exact r5
  obtain ⟨A5, hA5⟩ : ∃ A5, A5 = (W.drew.alloc (.cells #[.slice none 0 0, .int .i64 0, .int .i64 0, .int .i64 0, .int .i64 0, .int .i64 0] 120)).drew := ⟨_, rfl⟩
  have e2 : A5.cell? ⟨d, 2, none⟩ = some (.map (some b2)) := by
    rw [hA5]
    show (W.alloc _).cell? _ = _
    simp [World.cell?, Below.heap_alloc _ _ _ (heap_lt HI.raw.ob), HI.raw.ob, Gh.agV, hb2]
  have e1 : A5.cell? ⟨p, 1, none⟩ = some (.string (G.cl p).acc) := by
    rw [hA5]
    show (W.alloc _).cell? _ = _
    simp [World.cell?, Below.heap_alloc _ _ _ (heap_lt hcb), hcb, Gh.clV]
  have HENW : Hid ((G.acct k Q).nw = G.nw) := by
    show _ = _
    funext y j
    show (if y = k then 0 else G.nw y j) = _
    by_cases e : y = k
    · rw [if_pos e, e, hk, (HI.no _ hq).2 j]
    · rw [if_neg e]
  have hls0 : (G.acct k Q).ls k = [] := by simp [Gh.acct]
  have HQ : Hid ((G.acct k Q).qa k = some Q) := by show _ = _; simp [Gh.acct]
  obtain ⟨p6, c6, n6, w6, p7, c7, n7, w7, w8, G8, T8⟩ := tail8 (p := p) (k := k) hn5.raw (unhide HQ) hb1 HI.mem (by rw [hls0]; simp) HI.l1 HI.l4 HI.ksz
  have K8 := T8.kept
  have N8 : Next W w8 d G G8 := NW0.trans (hn5.trans T8.next)
  have hz8 : Stp w8 := HI.st.keep (N8.fr.block 0 HI.st.lt HI.z)
  have dT := hide (turns_any (W := w8) (p := p) (c := G.cl p) (x5 := .int .i64 (G8.lf p)) (x6 := G8.pv p) (x7 := .int .i64 (G8.sh p).1) (x8 := .int .i64 (G8.sh p).2) (by
    rw [N8.raw.cb p (by rw [K8.bs]; exact HI.mem)]
    unfold Gh.clV
    rw [K8.cl]
    rfl) hz8 HI.ok.due)
  have HQAP : Hid (∀ y, (G.acct k Q).qa y ≠ none ↔ G.qa y ≠ none ∨ y = k) := fun y => by
    show (if y = k then some Q else G.qa y) ≠ none ↔ _
    by_cases e : y = k
    · rw [if_pos e]; exact ⟨fun _ => .inr e, fun _ h => by cases h⟩
    · rw [if_neg e]; exact ⟨.inl, fun h => h.elim id (fun h => absurd h e)⟩
  have HLSP : Hid ((fun y => if y = k then (G.acct k Q).ls k ++ [p] else (G.acct k Q).ls y) = fun y => if y = k then G.ls y ++ [p] else G.ls y) := by
    show _ = _
    funext y
    by_cases e : y = k
    · rw [if_pos e, if_pos e, hls0, e, hk, (HI.no _ hq).1]
    · rw [if_neg e, if_neg e]
      show (if y = k then [] else G.ls y) = _
      rw [if_neg e]
  have HMB : Hid ((G.acct k Q).mb ≠ none) := ne_none hb1
  have HMA : Hid ((G.acct k Q).ma ≠ none) := ne_none hb2
  unfold ptr at dT ⊢
  have he1 := eqm_some b1
  have he2 := fun w => eqp_none w 118 (.inl rfl)
  go_enter Tryz.func103, Tryz.ntmps103
  go_wp2_with fail
  refine wp_region_last (n := 11) (S := fun W' => W'.cell? ⟨d, 2, none⟩ = some (.map (some b2)) ∧ W'.cell? ⟨p, 1, none⟩ = some (.string (G.cl p).acc) ∧ (Instr.lookup 96 (.map (some b2)) (.string (G.cl p).acc) false).run Tryz.prog W' = .ok (.pointer none) W') (by kernel_rfl) (by exact ⟨d2, p1, hlk⟩) (fun hHeld => ?_)
  refine tkW 0 ?_; refine tkW 1 ?_; refine tkW 2 ?_; refine tkN 3 ?_; refine tkW 4 ?_; refine tkW 5 ?_; refine tkW 6 ?_; refine tkW 7 ?_; refine tkN 8 ?_; refine tkN 9 ?_; refine tkW 10 ?_
  refine wpAnyL_done (by kernel_rfl) ?_
  clear hHeld d2 p1 hlk
  clear hpd hls0
  rw [← hA5] at r5
  go_wp2_with fail
  have hWW : (W.alloc (.cells #[.slice none 0 0, .int .i64 0, .int .i64 0, .int .i64 0, .int .i64 0, .int .i64 0] 120)).drew.drew = A5 := hA5.symm
  have HWW := hide hWW; have HA5 := hide hA5; have HQQ := hide hQ
  clear hWW hA5 hQ
  refine wp_region_last (n := 10) (S := fun W' => W'.cell? ⟨d, 2, none⟩ = some (.map (some b2)) ∧ W'.cell? ⟨p, 1, none⟩ = some (.string (G.cl p).acc) ∧ W' = A5) (by kernel_rfl) (by rw [unhide HWW]; exact ⟨e2, e1, rfl⟩) (fun hHeld => ?_)
  refine tkW 0 ?_; refine tkW 1 ?_; refine tkW 2 ?_; refine tkS 3 ?_; refine tkW 4 ?_; refine tkW 5 ?_; refine tkW 6 ?_; refine tkW 7 ?_; refine tkS 8 ?_; refine tkW 9 ?_
  clear hHeld
  rw [unhide HWW, ← unhide HQQ]
  refine wpAnyL_past (i := 10) (by kernel_rfl) rfl (by kernel_rfl) (fun KK hK => ?_)
  go_simp
  refine hK.out _ _ ?_
  clear hK KK
  refine wpAnyL_done (by kernel_rfl) ?_
  clear e1 e2
  have r6 := T8.r6; have l6 := T8.l6; have m6 := T8.m6; have f6 := T8.f6; have r7 := T8.r7; have l7 := T8.l7; have m7 := T8.m7; have f7 := T8.f7; have m1 := T8.m1; have m0 := T8.m0; have r8 := T8.r8
  have HK8 := hide K8; have HN8 := hide N8; have HII := hide HI; have HST8 := hide hz8; have HHK := hide hk
  obtain ⟨V, hV⟩ : ∃ V, V = w5 := ⟨_, rfl⟩
  rw [← hV] at r6 l6 ⊢
  clear hV
  clear T8 K8 N8 HI hz8 hk NW0 hrD hq hb1 hb2 hcb hn5 r5
  go_upto_region 7 with (refine wpList_append_run rfl _ _ _ rfl _ _ _ _ rfl rfl r6 ?_)
  clear r6 l6 m6 f6
  obtain ⟨V6, hV6⟩ : ∃ V6, V6 = w6.setCell ⟨Q, 0, none⟩ (.slice p6 n6 c6) := ⟨_, rfl⟩
  have hV6s : w6.heap.size = V6.heap.size := by rw [hV6]; simp
  rw [← hV6] at r7 l7 ⊢
  rw [hV6s] at r7
  clear hV6 hV6s
  go_upto_region 8 with (refine wpList_append_run rfl _ _ _ rfl _ _ _ _ rfl rfl r7 ?_)
  clear r7 l7 m7 f7
  refine wp_region_last (n := 10) (S := fun W' => W'.cell? ⟨d, 1, none⟩ = some (.map (some b1)) ∧ W'.cell? ⟨p, 0, none⟩ = some (.string ((G.acct k Q).cl p).key) ∧ W' = (w7.setCell ⟨d, 0, none⟩ (.slice p7 n7 c7)).drew) (by kernel_rfl) (by exact ⟨m1, m0, rfl⟩) (fun hHeld => ?_)
  refine tkW 0 ?_; refine tkW 1 ?_; refine tkW 2 ?_; refine tkS 3 ?_; refine tkW 4 ?_; refine tkW 5 ?_; refine tkW 6 ?_; refine tkW 7 ?_; refine tkS 8 ?_; refine tkW 9 ?_
  clear hHeld
  obtain ⟨V7, hV7⟩ : ∃ V7, V7 = (w7.setCell ⟨d, 0, none⟩ (.slice p7 n7 c7)).drew := ⟨_, rfl⟩
  rw [← hV7] at r8 m1 m0 ⊢
  clear hV7
  refine wpAnyL_past (i := 10) (by kernel_rfl) rfl (by kernel_rfl) (fun KK hK => ?_)
  go_simp
  refine hK.out _ _ ?_
  clear hK KK
  refine wpAnyL_done (by kernel_rfl) ?_
  clear r8 m1 m0
  go_wp2_with fail
  refine (unhide dT).mono ?_
  rintro e w9 ⟨v9, rfl, hT9⟩
  obtain ⟨p9, c9, rfl, hn9, hs9⟩ := row_slice hT9.row
  have hN8 := unhide HN8; have hK8 := unhide HK8; have hII := unhide HII
  have hr9 : Raw w9 d G8 := hN8.raw.below hT9.bel
  have dF := hide (follow_any (W := w9) (d := d) (p := p) (q := Q) (G := G8) hr9 (by rw [hK8.bs]; exact hII.mem) (by
    have e : G8.key p = G.key p := by unfold Gh.key; rw [hK8.cl]; rfl
    rw [e, hK8.qa, ← unhide HHK]; exact unhide HQ) ((unhide HST8).below hT9.bel) (fun hx => (hN8.own 0 hx).elim hII.z (fun h => by have := hII.st.lt; omega)) (hII.ok.of (by rw [hK8.cl]; rfl) (by rw [hK8.pt]; rfl) (by rw [hK8.sh]; rfl) (by rw [hK8.gone]; rfl) (by rw [hK8.nw]; exact unhide HENW)) (by rw [hK8.tn]; exact hII.hp) (pd := p9) (nd := 5) (cd := c9) (L := trn5 (G.cl p)) (own_lies kI_ok rfl hT9.row) rfl (fun b off e hx => by
    have h1 := (hs9 _ e).2.2.1
    have h2 := hN8.raw.lt hx
    have h3 : w8.heap.size ≤ b := h1
    omega) (by rw [hK8.tn]; have := hII.l3; show G.tn.length + 5 ≤ 1000000; omega))
  unfold ptr at dF
  have HB9 := hide hT9.bel
  clear hT9 hn9 hs9 hr9 hN8 hK8 hII dT
  go_wp2_with fail
  refine (unhide dF).mono ?_
  rintro e w10 ⟨rfl, hF⟩
  have HFIN : Hid (KeptOut W w10 d p G) := by
    have hN8 := unhide HN8; have hK8 := unhide HK8
    obtain ⟨vt', H', hM, hNx⟩ := hF
    have eC : G8.cl = G.cl := by rw [hK8.cl]; rfl
    have eP : G8.pt = G.pt := by rw [hK8.pt]; rfl
    have eG : G8.gone = G.gone := by rw [hK8.gone]; rfl
    have eS : G8.sh = G.sh := by rw [hK8.sh]; rfl
    have eN : G8.nw = G.nw := by rw [hK8.nw]; exact unhide HENW
    have eT : G8.tn = G.tn := by rw [hK8.tn]; rfl
    have eK : G8.key p = G.key p := by unfold Gh.key; rw [eC]
    refine ⟨_, { next := (hN8.below (unhide HB9)).trans hNx, bs := by show G8.bs = _; rw [hK8.bs]; rfl, cl := eC, lf := by show G8.lf = _; rw [hK8.lf]; rfl, pt := eP, pv := by show G8.pv = _; rw [hK8.pv]; rfl, al := by show G8.al = _; rw [hK8.al]; rfl, inv := by show G8.inv = _; rw [hK8.inv]; rfl, gone := eG, ps := by show G8.ps = _; rw [hK8.ps]; rfl, kf := by show G8.kf = _; rw [hK8.kf]; rfl, qa := fun y => by show G8.qa y ≠ none ↔ _; rw [hK8.qa, ← unhide HHK]; exact unhide HQAP y, ls := by show G8.ls = _; rw [hK8.ls, ← unhide HHK]; exact unhide HLSP, sh := ?_, nw := ?_, tm := ?_, mb := by show G8.mb ≠ none; rw [hK8.mb]; exact unhide HMB, ma := by show G8.ma ≠ none; rw [hK8.ma]; exact unhide HMA, nk := by show G8.nk ≤ _; rw [hK8.nk]; exact Nat.le_refl _, na := by show G8.na ≤ _; rw [hK8.na]; exact Nat.le_refl _ }⟩
    · show (fun x => if x = p then shr (G8.cl p) (G8.pt p) (1 + G8.gone) else G8.sh x) = _
      rw [eC, eP, eG, eS]
    · unfold Gh.shown
      simp only [Gh.key, eC, eP, eG, eS, eN]
      rfl
    · refine ⟨fun x => ?_, hM.2.1, ?_⟩
      · have := hM.1 x
        rw [eT, eG] at this
        exact this
      · have := hM.2.2
        rw [eT] at this
        exact this
  clear hF dF
  go_wp2_with fail
  go_end0
  exact ⟨rfl, unhide HFIN⟩
end Go.Proofs.YtfclknlpdcanpaaGreatDoor
