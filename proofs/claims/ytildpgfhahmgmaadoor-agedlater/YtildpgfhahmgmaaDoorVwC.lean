/- aged: how the view's lists and maps grow. -/
import Derived.Test.YtildpgfhahmgmaaDoorVwB
namespace Go.Proofs.YtildpgfhahmgmaaDoor
open Go Go.Shelf Go.ChangeShapes Go.WideShapes Go.ChangeAt Go.RowKit Go.Maps
set_option linter.unusedVariables false
/-- a row behind an append -/
structure App (W w' : World) (e s : Nat) (v v' : Value) (n' : Nat) (xs : List Value) : Prop where
  row : w'.ownsRow 0 e s v' n' xs
  fr : Fr W w' (fun b => v.ownBlock = some b)
  loc : v'.ownBlock = v.ownBlock ∨ ∃ g, v'.ownBlock = some g ∧ W.heap.size ≤ g
theorem app_one {α : Type} {K : Kd α} (hK : KdOK K) {W : World} {v : Value} {n : Nat} {L : List α} (h : W.ownsRow 0 K.e K.s v n (K.flat L)) (hl : n ≤ 1000000) (x : α) (vs : Array Value) (hv : vs.toList = K.enc x) (ty t : TypeId) :
    ∃ p' c' w', (Builtin.append_ #[K.t, K.t] ty #[v, .slice (some ⟨W.heap.size, 0, none⟩) 1 1]).run Tryd.prog (W.alloc (.cells vs t)) = .ok (.slice p' (n + 1) c') w' ∧ App W w' K.e K.s v (.slice p' (n + 1) c') (n + 1) (K.flat (L ++ [x])) := by
  obtain ⟨p', c', w', h1, h2, h3, h4, h5⟩ := run_app hK ty (W := W.alloc (.cells vs t)) (B := 0) (h.alloc _) (Nat.zero_le _) (some ⟨W.heap.size, 0, none⟩) 1 (fun h => by cases h) (one_lies W x t vs hv) (by simp; omega)
  refine ⟨p', c', w', h1, h2, ⟨h3.os, h3.tape, h3.output, by have := h3.size; simp at this; omega, fun k hk hx => ?_⟩, ?_⟩
  · rw [h4 k (by simp; omega) hx, Below.heap_alloc _ _ _ hk]
  · rcases h5 with h5 | h5
    · exact .inl h5
    · exact .inr ⟨_, h5, by simp⟩
theorem own_elim {G' : Gh} {d b : Nat} {P : Prop} (h : G'.own d b) (h0 : b = d → P) (h1 : G'.vc.ownBlock = some b → P) (h2 : G'.va.ownBlock = some b → P) (h3 : G'.vt.ownBlock = some b → P) (h4 : b ∈ G'.bs → P) (h5 : ∀ p ∈ G'.bs, (G'.pv p).ownBlock = some b → P) (h6 : G'.mb = some b → P) (h7 : G'.ma = some b → P) (h8 : ∀ k, G'.qa k = some b → P) (h9 : ∀ k, G'.qa k ≠ none → (G'.av k).ownBlock = some b → P) : P := by
  rcases h with h | h | h | h | h | ⟨p, hp, h⟩ | h | h | ⟨k, h⟩ | ⟨k, hk, h⟩
  · exact h0 h
  · exact h1 h
  · exact h2 h
  · exact h3 h
  · exact h4 h
  · exact h5 p hp h
  · exact h6 h
  · exact h7 h
  · exact h8 k h
  · exact h9 k hk h
theorem App.lt {W w' : World} {e s n' : Nat} {v v' : Value} {xs : List Value} (h : App W w' e s v v' n' xs) {b : Nat} (hb : b < W.heap.size) (hv : v.ownBlock ≠ some b) : v'.ownBlock ≠ some b := fun e => by
  rcases h.loc with h1 | ⟨g, h1, h2⟩
  · exact hv (h1.symm.trans e)
  · rw [h1] at e
    have := Option.some.inj e
    omega
theorem PMAt.keep_row {W W' : World} {b n : Nat} {F : List UInt8 → Option Nat} (h : PMAt W b n F) (hs : ∀ es c, W.heap[b]? = some (Obj.map es c) → W'.heap[b]? = W.heap[b]?) : PMAt W' b n F := by
  obtain ⟨es, c, e⟩ := h.block
  exact h.keep (hs es c e)
theorem row_no_map {W : World} {B e s n b : Nat} {v : Value} {xs : List Value} {es c} (h : W.ownsRow B e s v n xs) (hb : W.heap[b]? = some (Obj.map es c)) : v.ownBlock ≠ some b := fun hv => by
  obtain ⟨_, _, o, ho, hc⟩ := row_block h hv
  rw [hb] at ho
  cases ho
  cases hc
/-- what a store into an owner's cell behind an append leaves alone -/
theorem app_set_fr {W w' : World} {e s n' x : Nat} {v v' : Value} {xs : List Value} (h : App W w' e s v v' n' xs) (i : Nat) (u : Value) : Fr W (w'.setCell ⟨x, i, none⟩ u) (fun b => b = x ∨ v.ownBlock = some b) :=
  Fr.setCell (X := fun b => b = x ∨ v.ownBlock = some b) (h.fr.mono (fun _ _ hx => Or.inr hx)) (p := ⟨x, i, none⟩) (.inl (.inl rfl)) u
/-- allotments -/
theorem Raw.growAl {W w1 : World} {d : Nat} {G : Gh} (h : Raw W d G) {v' : Value} {x : Al} (ha : App W w1 51 4 G.va v' (G.al.length + 1) (kA.flat (G.al ++ [x]))) : Next W (w1.setCell ⟨d, 3, none⟩ v') d G { G with va := v', al := G.al ++ [x] } := by
  have hf := app_set_fr (x := d) ha 3 v'
  have hsame : ∀ b, b < W.heap.size → b ≠ d → G.va.ownBlock ≠ some b → (w1.setCell ⟨d, 3, none⟩ v').heap[b]? = W.heap[b]? := fun b hb h1 h2 => hf.block b hb (fun hx => hx.elim h1 h2)
  have hs : ∀ t, t ≠ 83 → t ≠ 51 → SameT W (w1.setCell ⟨d, 3, none⟩ v') t := fun t h1 h2 b hb => hsame b (ty_lt hb) (fun e => by rw [e, h.tyD] at hb; exact h1 (Option.some.inj hb).symm) (fun e => by rw [row_ty h.ra e] at hb; exact h2 (Option.some.inj hb).symm)
  have hm : ∀ b es c, W.heap[b]? = some (Obj.map es c) → (w1.setCell ⟨d, 3, none⟩ v').heap[b]? = W.heap[b]? := fun b es c hb => hsame b (heap_lt hb) (fun e => by rw [e, h.ob] at hb; cases hb) (row_no_map h.ra hb)
  have hdv : G.va.ownBlock ≠ some d := fun e => by have := row_ty h.ra e; rw [h.tyD] at this; cases this
  refine ⟨?_, hf.mono (fun i _ hx => hx.elim (fun e => by rw [e]; exact own_d) own_va), fun b hb => ?_⟩
  · exact { ob := (Go.heap_setCell_same w1 d 3 _ 83 _ ((ha.fr.block d (heap_lt h.ob) hdv).trans h.ob)).trans rfl
            rc := row_same h.rc (hs 84 (by decide) (by decide))
            ra := by
              show (w1.setCell ⟨d, 3, none⟩ v').ownsRow 0 51 4 v' (G.al ++ [x]).length _
              rw [List.length_append]
              exact row_keep ha.row (fun g hg => Below.heap_setCell _ _ _ _ (fun e => ha.lt (heap_lt h.ob) hdv (by rw [hg]; exact congrArg some e)))
            rt := row_same h.rt (hs 86 (by decide) (by decide)), nd := h.nd
            cb := fun p hp => (hs 99 (by decide) (by decide) p (h.tyB hp)).trans (h.cb p hp)
            pr := fun p hp => row_same (h.pr p hp) (hs 105 (by decide) (by decide)), pi := h.pi
            mm := fun b hb => (h.mm b hb).keep_row (hm b), mn := h.mn, am := fun b hb => (h.am b hb).keep_row (hm b), an := h.an, mx := h.mx
            ac := fun k q hq => (hs 91 (by decide) (by decide) q (h.tyQ hq)).trans (h.ac k q hq)
            ar := fun k q hq => row_same (h.ar k q hq) (hs 84 (by decide) (by decide)), qi := h.qi, ai := h.ai, vi := h.vi }
  · exact own_elim hb (fun h => .inl (.inl h)) (fun h => .inl (own_vc h)) (fun h => by
      rcases ha.loc with h1 | ⟨g, h1, h2⟩
      · exact .inl (own_va (h1.symm.trans h))
      · have h : v'.ownBlock = some b := h
        rw [h1] at h
        exact .inr (by rw [← Option.some.inj h]; exact h2)) (fun h => .inl (own_vt h)) (fun h => .inl (own_bs h)) (fun p hp h => .inl (own_pv hp h)) (fun h => .inl (own_mk h)) (fun h => .inl (own_ma h)) (fun k h => .inl (own_qa h)) (fun k hk h => .inl (own_av hk h))
/-- the view's own list of claims -/
theorem Raw.growCl {W w1 : World} {d : Nat} {G : Gh} (h : Raw W d G) {v' : Value} {x : Nat} (ha : App W w1 84 1 G.vc v' (G.ps.length + 1) (kP.flat (G.ps ++ [x]))) : Next W (w1.setCell ⟨d, 0, none⟩ v') d G { G with vc := v', ps := G.ps ++ [x] } := by
  have hf := app_set_fr (x := d) ha 0 v'
  have hsame : ∀ b, b < W.heap.size → b ≠ d → G.vc.ownBlock ≠ some b → (w1.setCell ⟨d, 0, none⟩ v').heap[b]? = W.heap[b]? := fun b hb h1 h2 => hf.block b hb (fun hx => hx.elim h1 h2)
  have hs : ∀ t, t ≠ 83 → t ≠ 84 → SameT W (w1.setCell ⟨d, 0, none⟩ v') t := fun t h1 h2 b hb => hsame b (ty_lt hb) (fun e => by rw [e, h.tyD] at hb; exact h1 (Option.some.inj hb).symm) (fun e => by rw [row_ty h.rc e] at hb; exact h2 (Option.some.inj hb).symm)
  have hm : ∀ b es c, W.heap[b]? = some (Obj.map es c) → (w1.setCell ⟨d, 0, none⟩ v').heap[b]? = W.heap[b]? := fun b es c hb => hsame b (heap_lt hb) (fun e => by rw [e, h.ob] at hb; cases hb) (row_no_map h.rc hb)
  have hdv : G.vc.ownBlock ≠ some d := fun e => by have := row_ty h.rc e; rw [h.tyD] at this; cases this
  refine ⟨?_, hf.mono (fun i _ hx => hx.elim (fun e => by rw [e]; exact own_d) own_vc), fun b hb => ?_⟩
  · exact { ob := (Go.heap_setCell_same w1 d 0 _ 83 _ ((ha.fr.block d (heap_lt h.ob) hdv).trans h.ob)).trans rfl
            ra := row_same h.ra (hs 51 (by decide) (by decide))
            rc := by
              show (w1.setCell ⟨d, 0, none⟩ v').ownsRow 0 84 1 v' (G.ps ++ [x]).length _
              rw [List.length_append]
              exact row_keep ha.row (fun g hg => Below.heap_setCell _ _ _ _ (fun e => ha.lt (heap_lt h.ob) hdv (by rw [hg]; exact congrArg some e)))
            rt := row_same h.rt (hs 86 (by decide) (by decide)), nd := h.nd
            cb := fun p hp => (hs 99 (by decide) (by decide) p (h.tyB hp)).trans (h.cb p hp)
            pr := fun p hp => row_same (h.pr p hp) (hs 105 (by decide) (by decide)), pi := h.pi
            mm := fun b hb => (h.mm b hb).keep_row (hm b), mn := h.mn, am := fun b hb => (h.am b hb).keep_row (hm b), an := h.an, mx := h.mx
            ac := fun k q hq => (hs 91 (by decide) (by decide) q (h.tyQ hq)).trans (h.ac k q hq)
            ar := fun k q hq => row_keep (h.ar k q hq) (fun g hg => hsame g (row_block (h.ar k q hq) hg).2.1 (fun e => by have := row_ty (h.ar k q hq) hg; rw [e, h.tyD] at this; cases this) (h.vi k g (ne_none hq) hg)), qi := h.qi, ai := h.ai
            vi := fun k g hk hg => by
              obtain ⟨q, hq⟩ := some_of hk
              exact ha.lt (row_block (h.ar k q hq) hg).2.1 (h.vi k g hk hg) }
  · exact own_elim hb (fun h => .inl (.inl h)) (fun h => by
      rcases ha.loc with h1 | ⟨g, h1, h2⟩
      · exact .inl (own_vc (h1.symm.trans h))
      · have h : v'.ownBlock = some b := h
        rw [h1] at h
        exact .inr (by rw [← Option.some.inj h]; exact h2)) (fun h => .inl (own_va h)) (fun h => .inl (own_vt h)) (fun h => .inl (own_bs h)) (fun p hp h => .inl (own_pv hp h)) (fun h => .inl (own_mk h)) (fun h => .inl (own_ma h)) (fun k h => .inl (own_qa h)) (fun k hk h => .inl (own_av hk h))
/-- what was allotted to a claim -/
def Gh.parted (G : Gh) (p : Nat) (v' : Value) (x : Int × Int) : Gh := { G with pv := fun y => if y = p then v' else G.pv y, pt := fun y => if y = p then G.pt p ++ [x] else G.pt y }
theorem Raw.growPt {W w1 : World} {d p : Nat} {G : Gh} (h : Raw W d G) (hp : p ∈ G.bs) {v' : Value} {x : Int × Int} (ha : App W w1 105 2 (G.pv p) v' ((G.pt p).length + 1) (kQ.flat (G.pt p ++ [x]))) : Next W (w1.setCell ⟨p, 6, none⟩ v') d G (G.parted p v' x) := by
  have hf := app_set_fr (x := p) ha 6 v'
  have hpr := h.pr p hp
  have hsame : ∀ b, b < W.heap.size → b ≠ p → (G.pv p).ownBlock ≠ some b → (w1.setCell ⟨p, 6, none⟩ v').heap[b]? = W.heap[b]? := fun b hb h1 h2 => hf.block b hb (fun hx => hx.elim h1 h2)
  have hs : ∀ t, t ≠ 99 → t ≠ 105 → SameT W (w1.setCell ⟨p, 6, none⟩ v') t := fun t h1 h2 b hb => hsame b (ty_lt hb) (fun e => by rw [e, h.tyB hp] at hb; exact h1 (Option.some.inj hb).symm) (fun e => by rw [row_ty hpr e] at hb; exact h2 (Option.some.inj hb).symm)
  have hm : ∀ b es c, W.heap[b]? = some (Obj.map es c) → (w1.setCell ⟨p, 6, none⟩ v').heap[b]? = W.heap[b]? := fun b es c hb => hsame b (heap_lt hb) (fun e => by rw [e, h.cb p hp] at hb; cases hb) (row_no_map hpr hb)
  have hpv : (G.pv p).ownBlock ≠ some p := fun e => by have := row_ty hpr e; rw [h.tyB hp] at this; cases this
  have hpvo : ∀ p' ∈ G.bs, (G.pv p).ownBlock ≠ some p' := fun p' hp' e => by have := row_ty hpr e; rw [h.tyB hp'] at this; cases this
  refine ⟨?_, hf.mono (fun i _ hx => hx.elim (fun e => by rw [e]; exact own_bs hp) (own_pv hp)), fun b hb => ?_⟩
  · exact { ob := (hs 83 (by decide) (by decide) d h.tyD).trans h.ob
            rc := row_same h.rc (hs 84 (by decide) (by decide)), ra := row_same h.ra (hs 51 (by decide) (by decide)), rt := row_same h.rt (hs 86 (by decide) (by decide)), nd := h.nd
            cb := fun p' hp' => by
              by_cases e : p' = p
              · subst e
                refine (Go.heap_setCell_same w1 p' 6 _ 99 _ ((ha.fr.block p' (heap_lt (h.cb p' hp)) hpv).trans (h.cb p' hp))).trans ?_
                unfold Gh.clV Gh.parted
                simp
              · rw [hsame p' (heap_lt (h.cb p' hp')) e (hpvo p' hp'), h.cb p' hp']
                unfold Gh.clV Gh.parted
                simp [e]
            pr := fun p' hp' => by
              by_cases e : p' = p
              · subst e
                have e1 : (G.parted p' v' x).pv p' = v' := by simp [Gh.parted]
                have e2 : (G.parted p' v' x).pt p' = G.pt p' ++ [x] := by simp [Gh.parted]
                rw [e1, e2, List.length_append]
                exact row_keep ha.row (fun g hg => Below.heap_setCell _ _ _ _ (fun e => ha.lt (heap_lt (h.cb p' hp)) hpv (by rw [hg]; exact congrArg some e)))
              · have e1 : (G.parted p v' x).pv p' = G.pv p' := by simp [Gh.parted, e]
                have e2 : (G.parted p v' x).pt p' = G.pt p' := by simp [Gh.parted, e]
                rw [e1, e2]
                exact row_keep (h.pr p' hp') (fun g hg => hsame g (row_block (h.pr p' hp') hg).2.1 (fun e3 => by have := row_ty (h.pr p' hp') hg; rw [e3, h.tyB hp] at this; cases this) (fun e3 => e (h.pi p' hp' p hp g hg e3)))
            pi := fun p1 h1 p2 h2 g hg1 hg2 => by
              by_cases e1 : p1 = p
              · by_cases e2 : p2 = p
                · rw [e1, e2]
                · have hg1 : (if p1 = p then v' else G.pv p1).ownBlock = some g := hg1
                  have hg2 : (if p2 = p then v' else G.pv p2).ownBlock = some g := hg2
                  rw [if_pos e1] at hg1
                  rw [if_neg e2] at hg2
                  exact absurd hg1 (ha.lt (row_block (h.pr p2 h2) hg2).2.1 (fun e3 => e2 (h.pi p2 h2 p hp g hg2 e3)))
              · have hg1 : (if p1 = p then v' else G.pv p1).ownBlock = some g := hg1
                have hg2 : (if p2 = p then v' else G.pv p2).ownBlock = some g := hg2
                rw [if_neg e1] at hg1
                by_cases e2 : p2 = p
                · rw [if_pos e2] at hg2
                  exact absurd hg2 (ha.lt (row_block (h.pr p1 h1) hg1).2.1 (fun e3 => e1 (h.pi p1 h1 p hp g hg1 e3)))
                · rw [if_neg e2] at hg2
                  exact h.pi p1 h1 p2 h2 g hg1 hg2
            mm := fun b hb => (h.mm b hb).keep_row (hm b), mn := h.mn, am := fun b hb => (h.am b hb).keep_row (hm b), an := h.an, mx := h.mx
            ac := fun k q hq => (hs 91 (by decide) (by decide) q (h.tyQ hq)).trans (h.ac k q hq)
            ar := fun k q hq => row_same (h.ar k q hq) (hs 84 (by decide) (by decide)), qi := h.qi, ai := h.ai, vi := h.vi }
  · exact own_elim hb (fun h => .inl (.inl h)) (fun h => .inl (own_vc h)) (fun h => .inl (own_va h)) (fun h => .inl (own_vt h)) (fun h => .inl (own_bs h)) (fun p' hp' h => by
      have h : (if p' = p then v' else G.pv p').ownBlock = some b := h
      by_cases e : p' = p
      · rw [if_pos e] at h
        rcases ha.loc with h1 | ⟨g, h1, h2⟩
        · exact .inl (own_pv hp (h1.symm.trans h))
        · rw [h1] at h
          exact .inr (by rw [← Option.some.inj h]; exact h2)
      · rw [if_neg e] at h
        exact .inl (own_pv hp' h)) (fun h => .inl (own_mk h)) (fun h => .inl (own_ma h)) (fun k h => .inl (own_qa h)) (fun k hk h => .inl (own_av hk h))
/-- an account's list of claims -/
def Gh.listed (G : Gh) (k : List UInt8) (v' : Value) (x : Nat) : Gh := { G with av := fun y => if y = k then v' else G.av y, ls := fun y => if y = k then G.ls k ++ [x] else G.ls y }
theorem Raw.growAc {W w1 : World} {d q : Nat} {k : List UInt8} {G : Gh} (h : Raw W d G) (hq : G.qa k = some q) {v' : Value} {x : Nat} (ha : App W w1 84 1 (G.av k) v' ((G.ls k).length + 1) (kP.flat (G.ls k ++ [x]))) : Next W (w1.setCell ⟨q, 0, none⟩ v') d G (G.listed k v' x) := by
  have hf := app_set_fr (x := q) ha 0 v'
  have hpr := h.ar k q hq
  have hkn := ne_none hq
  have hsame : ∀ b, b < W.heap.size → b ≠ q → (G.av k).ownBlock ≠ some b → (w1.setCell ⟨q, 0, none⟩ v').heap[b]? = W.heap[b]? := fun b hb h1 h2 => hf.block b hb (fun hx => hx.elim h1 h2)
  have hs : ∀ t, t ≠ 91 → t ≠ 84 → SameT W (w1.setCell ⟨q, 0, none⟩ v') t := fun t h1 h2 b hb => hsame b (ty_lt hb) (fun e => by rw [e, h.tyQ hq] at hb; exact h1 (Option.some.inj hb).symm) (fun e => by rw [row_ty hpr e] at hb; exact h2 (Option.some.inj hb).symm)
  have hm : ∀ b es c, W.heap[b]? = some (Obj.map es c) → (w1.setCell ⟨q, 0, none⟩ v').heap[b]? = W.heap[b]? := fun b es c hb => hsame b (heap_lt hb) (fun e => by rw [e, h.ac k q hq] at hb; cases hb) (row_no_map hpr hb)
  have hpv : (G.av k).ownBlock ≠ some q := fun e => by have := row_ty hpr e; rw [h.tyQ hq] at this; cases this
  refine ⟨?_, hf.mono (fun i _ hx => hx.elim (fun e => by rw [e]; exact own_qa hq) (own_av hkn)), fun b hb => ?_⟩
  · exact { ob := (hs 83 (by decide) (by decide) d h.tyD).trans h.ob
            rc := row_keep h.rc (fun g hg => hsame g (row_block h.rc hg).2.1 (fun e => by have := row_ty h.rc hg; rw [e, h.tyQ hq] at this; cases this) (fun e => h.vi k g hkn e hg))
            ra := row_same h.ra (hs 51 (by decide) (by decide)), rt := row_same h.rt (hs 86 (by decide) (by decide)), nd := h.nd
            cb := fun p hp => (hs 99 (by decide) (by decide) p (h.tyB hp)).trans (h.cb p hp)
            pr := fun p hp => row_same (h.pr p hp) (hs 105 (by decide) (by decide)), pi := h.pi
            mm := fun b hb => (h.mm b hb).keep_row (hm b), mn := h.mn, am := fun b hb => (h.am b hb).keep_row (hm b), an := h.an, mx := h.mx
            ac := fun k' q' hq' => by
              have hq' : G.qa k' = some q' := hq'
              by_cases e : k' = k
              · subst e
                have e2 : q' = q := Option.some.inj (hq'.symm.trans hq)
                subst e2
                refine (Go.heap_setCell_same w1 q' 0 _ 91 _ ((ha.fr.block q' (heap_lt (h.ac k' q' hq)) hpv).trans (h.ac k' q' hq))).trans ?_
                unfold Gh.acV Gh.listed
                simp
              · have e2 : q' ≠ q := fun e2 => e (h.qi k' k q' hq' (by rw [e2]; exact hq))
                rw [hsame q' (heap_lt (h.ac k' q' hq')) e2 (fun e3 => by have := row_ty hpr e3; rw [h.tyQ hq'] at this; cases this), h.ac k' q' hq']
                unfold Gh.acV Gh.listed
                simp [e]
            ar := fun k' q' hq' => by
              have hq' : G.qa k' = some q' := hq'
              by_cases e : k' = k
              · subst e
                have e1 : (G.listed k' v' x).av k' = v' := by simp [Gh.listed]
                have e2 : (G.listed k' v' x).ls k' = G.ls k' ++ [x] := by simp [Gh.listed]
                rw [e1, e2, List.length_append]
                exact row_keep ha.row (fun g hg => Below.heap_setCell _ _ _ _ (fun e => ha.lt (heap_lt (h.ac k' q hq)) hpv (by rw [hg]; exact congrArg some e)))
              · have e1 : (G.listed k v' x).av k' = G.av k' := by simp [Gh.listed, e]
                have e2 : (G.listed k v' x).ls k' = G.ls k' := by simp [Gh.listed, e]
                rw [e1, e2]
                exact row_keep (h.ar k' q' hq') (fun g hg => hsame g (row_block (h.ar k' q' hq') hg).2.1 (fun e3 => by have := row_ty (h.ar k' q' hq') hg; rw [e3, h.tyQ hq] at this; cases this) (fun e3 => e (h.ai k' k g (ne_none hq') hkn hg e3)))
            qi := h.qi
            ai := fun k1 k2 g h1 h2 hg1 hg2 => by
              have h1 : G.qa k1 ≠ none := h1
              have h2 : G.qa k2 ≠ none := h2
              have hg1 : (if k1 = k then v' else G.av k1).ownBlock = some g := hg1
              have hg2 : (if k2 = k then v' else G.av k2).ownBlock = some g := hg2
              by_cases e1 : k1 = k
              · by_cases e2 : k2 = k
                · rw [e1, e2]
                · rw [if_pos e1] at hg1
                  rw [if_neg e2] at hg2
                  obtain ⟨q2, hq2⟩ := some_of h2
                  exact absurd hg1 (ha.lt (row_block (h.ar k2 q2 hq2) hg2).2.1 (fun e3 => e2 (h.ai k2 k g h2 hkn hg2 e3)))
              · rw [if_neg e1] at hg1
                by_cases e2 : k2 = k
                · rw [if_pos e2] at hg2
                  obtain ⟨q1, hq1⟩ := some_of h1
                  exact absurd hg2 (ha.lt (row_block (h.ar k1 q1 hq1) hg1).2.1 (fun e3 => e1 (h.ai k1 k g h1 hkn hg1 e3)))
                · rw [if_neg e2] at hg2
                  exact h.ai k1 k2 g h1 h2 hg1 hg2
            vi := fun k1 g h1 hg1 hv => by
              have h1 : G.qa k1 ≠ none := h1
              have hg1 : (if k1 = k then v' else G.av k1).ownBlock = some g := hg1
              have hv : G.vc.ownBlock = some g := hv
              by_cases e1 : k1 = k
              · rw [if_pos e1] at hg1
                exact ha.lt (row_block h.rc hv).2.1 (fun e => h.vi k g hkn e hv) hg1
              · rw [if_neg e1] at hg1
                exact h.vi k1 g h1 hg1 hv }
  · exact own_elim hb (fun h => .inl (.inl h)) (fun h => .inl (own_vc h)) (fun h => .inl (own_va h)) (fun h => .inl (own_vt h)) (fun h => .inl (own_bs h)) (fun p hp h => .inl (own_pv hp h)) (fun h => .inl (own_mk h)) (fun h => .inl (own_ma h)) (fun k h => .inl (own_qa h)) (fun k' hk' h => by
      have h : (if k' = k then v' else G.av k').ownBlock = some b := h
      by_cases e : k' = k
      · rw [if_pos e] at h
        rcases ha.loc with h1 | ⟨g, h1, h2⟩
        · exact .inl (own_av hkn (h1.symm.trans h))
        · rw [h1] at h
          exact .inr (by rw [← Option.some.inj h]; exact h2)
      · rw [if_neg e] at h
        exact .inl (own_av hk' h))
end Go.Proofs.YtildpgfhahmgmaaDoor
