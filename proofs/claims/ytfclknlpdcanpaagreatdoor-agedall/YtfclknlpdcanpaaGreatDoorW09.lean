import Derived.Test.YtfclknlpdcanpaaGreatDoorW08
/- aged: how the view's lists and maps grow. -/
namespace Go.Proofs.YtfclknlpdcanpaaGreatDoor
open Go Go.Shelf Go.ChangeShapes Go.WideShapes Go.ChangeAt Go.RowKit Go.Maps
set_option linter.unusedVariables false
/-- a row behind an append -/
structure App (W w' : World) (e s : Nat) (v v' : Value) (n' : Nat) (xs : List Value) : Prop where
  row : w'.ownsRow 0 e s v' n' xs
  fr : Fr W w' (fun b => v.ownBlock = some b)
  loc : v'.ownBlock = v.ownBlock ∨ ∃ g, v'.ownBlock = some g ∧ W.heap.size ≤ g
theorem app_one {α : Type} {K : Kd α} (hK : KdOK K) {W : World} {v : Value} {n : Nat} {L : List α} (h : W.ownsRow 0 K.e K.s v n (K.flat L)) (hl : n ≤ 1000000) (x : α) (vs : Array Value) (hv : vs.toList = K.enc x) (ty t : TypeId) :
    ∃ p' c' w', (Builtin.append_ #[K.t, K.t] ty #[v, .slice (some ⟨W.heap.size, 0, none⟩) 1 1]).run Tryz.prog (W.alloc (.cells vs t)) = .ok (.slice p' (n + 1) c') w' ∧ App W w' K.e K.s v (.slice p' (n + 1) c') (n + 1) (K.flat (L ++ [x])) := by
  obtain ⟨p', c', w', h1, h2, h3, h4, h5⟩ := run_app hK ty (W := W.alloc (.cells vs t)) (B := 0) (h.alloc _) (Nat.zero_le _) (some ⟨W.heap.size, 0, none⟩) 1 (fun h => by cases h) (one_lies W x t vs hv) (by simp; omega)
  refine ⟨p', c', w', h1, h2, ⟨h3.os, h3.tape, h3.output, by have := h3.size; simp at this; omega, fun k hk hx => ?_⟩, ?_⟩
  · rw [h4 k (by simp; omega) hx, Below.heap_alloc _ _ _ hk]
  · rcases h5 with h5 | h5
    · exact .inl h5
    · exact .inr ⟨_, h5, by simp⟩
theorem own_elim {G' : Gh} {d b : Nat} {P : Prop} (h : G'.own d b) (h0 : b = d → P) (h1 : G'.vc.ownBlock = some b → P) (h2 : G'.va.ownBlock = some b → P) (h3 : G'.vt.ownBlock = some b → P) (h4 : b ∈ G'.bs → P) (h5 : ∀ p ∈ G'.bs, (G'.pv p).ownBlock = some b → P) (h6 : G'.mb = some b → P) (h7 : G'.ma = some b → P) (h8 : ∀ k, G'.qa k = some b → P) (h9 : ∀ k, G'.qa k ≠ none → (G'.av k).ownBlock = some b → P) : P := by
  rcases h with h | h | h | h | h | ⟨p, hp, h⟩ | h | h | ⟨k, h⟩ | ⟨k, hk, h⟩
  · exact h0 h
  · exact h1 h
  · exact h2 h
  · exact h3 h
  · exact h4 h
  · exact h5 p hp h
  · exact h6 h
  · exact h7 h
  · exact h8 k h
  · exact h9 k hk h
theorem App.lt {W w' : World} {e s n' : Nat} {v v' : Value} {xs : List Value} (h : App W w' e s v v' n' xs) {b : Nat} (hb : b < W.heap.size) (hv : v.ownBlock ≠ some b) : v'.ownBlock ≠ some b := fun e => by
  rcases h.loc with h1 | ⟨g, h1, h2⟩
  · exact hv (h1.symm.trans e)
  · rw [h1] at e
    have := Option.some.inj e
    omega
theorem PMAt.keep_row {W W' : World} {b n : Nat} {F : List UInt8 → Option Nat} (h : PMAt W b n F) (hs : ∀ es c, W.heap[b]? = some (Obj.map es c) → W'.heap[b]? = W.heap[b]?) : PMAt W' b n F := by
  obtain ⟨es, c, e⟩ := h.block
  exact h.keep (hs es c e)
theorem row_no_map {W : World} {B e s n b : Nat} {v : Value} {xs : List Value} {es c} (h : W.ownsRow B e s v n xs) (hb : W.heap[b]? = some (Obj.map es c)) : v.ownBlock ≠ some b := fun hv => by
  obtain ⟨_, _, o, ho, hc⟩ := row_block h hv
  rw [hb] at ho
  cases ho
  cases hc
/-- what a store into an owner's cell behind an append leaves alone -/
theorem app_set_fr {W w' : World} {e s n' x : Nat} {v v' : Value} {xs : List Value} (h : App W w' e s v v' n' xs) (i : Nat) (u : Value) : Fr W (w'.setCell ⟨x, i, none⟩ u) (fun b => b = x ∨ v.ownBlock = some b) :=
  Fr.setCell (X := fun b => b = x ∨ v.ownBlock = some b) (h.fr.mono (fun _ _ hx => Or.inr hx)) (p := ⟨x, i, none⟩) (.inl (.inl rfl)) u
/-- allotments -/
theorem Raw.growAl {W w1 : World} {d : Nat} {G : Gh} (h : Raw W d G) {v' : Value} {x : Al} (ha : App W w1 58 4 G.va v' (G.al.length + 1) (kA.flat (G.al ++ [x]))) : Next W (w1.setCell ⟨d, 3, none⟩ v') d G { G with va := v', al := G.al ++ [x] } := by
  have hf := app_set_fr (x := d) ha 3 v'
  have hsame : ∀ b, b < W.heap.size → b ≠ d → G.va.ownBlock ≠ some b → (w1.setCell ⟨d, 3, none⟩ v').heap[b]? = W.heap[b]? := fun b hb h1 h2 => hf.block b hb (fun hx => hx.elim h1 h2)
  have hs : ∀ t, t ≠ 100 → t ≠ 58 → SameT W (w1.setCell ⟨d, 3, none⟩ v') t := fun t h1 h2 b hb => hsame b (ty_lt hb) (fun e => by rw [e, h.tyD] at hb; exact h1 (Option.some.inj hb).symm) (fun e => by rw [row_ty h.ra e] at hb; exact h2 (Option.some.inj hb).symm)
  have hm : ∀ b es c, W.heap[b]? = some (Obj.map es c) → (w1.setCell ⟨d, 3, none⟩ v').heap[b]? = W.heap[b]? := fun b es c hb => hsame b (heap_lt hb) (fun e => by rw [e, h.ob] at hb; cases hb) (row_no_map h.ra hb)
  have hdv : G.va.ownBlock ≠ some d := fun e => by have := row_ty h.ra e; rw [h.tyD] at this; cases this
  refine ⟨?_, hf.mono (fun i _ hx => hx.elim (fun e => by rw [e]; exact own_d) own_va), fun b hb => ?_⟩
  · exact { ob := (Go.heap_setCell_same w1 d 3 _ 100 _ ((ha.fr.block d (heap_lt h.ob) hdv).trans h.ob)).trans rfl
            rc := row_same h.rc (hs 101 (by decide) (by decide))
            ra := by
              show (w1.setCell ⟨d, 3, none⟩ v').ownsRow 0 58 4 v' (G.al ++ [x]).length _
              rw [List.length_append]
              exact row_keep ha.row (fun g hg => Below.heap_setCell _ _ _ _ (fun e => ha.lt (heap_lt h.ob) hdv (by rw [hg]; exact congrArg some e)))
            rt := row_same h.rt (hs 116 (by decide) (by decide)), nd := h.nd
            cb := fun p hp => (hs 109 (by decide) (by decide) p (h.tyB hp)).trans (h.cb p hp)
            pr := fun p hp => row_same (h.pr p hp) (hs 112 (by decide) (by decide)), pi := h.pi
            mm := fun b hb => (h.mm b hb).keep_row (hm b), mn := h.mn, am := fun b hb => (h.am b hb).keep_row (hm b), an := h.an, mx := h.mx
            ac := fun k q hq => (hs 120 (by decide) (by decide) q (h.tyQ hq)).trans (h.ac k q hq)
            ar := fun k q hq => row_same (h.ar k q hq) (hs 101 (by decide) (by decide)), qi := h.qi, ai := h.ai, vi := h.vi }
  · exact own_elim hb (fun h => .inl (.inl h)) (fun h => .inl (own_vc h)) (fun h => by
      rcases ha.loc with h1 | ⟨g, h1, h2⟩
      · exact .inl (own_va (h1.symm.trans h))
      · have h : v'.ownBlock = some b := h
        rw [h1] at h
        exact .inr (by rw [← Option.some.inj h]; exact h2)) (fun h => .inl (own_vt h)) (fun h => .inl (own_bs h)) (fun p hp h => .inl (own_pv hp h)) (fun h => .inl (own_mk h)) (fun h => .inl (own_ma h)) (fun k h => .inl (own_qa h)) (fun k hk h => .inl (own_av hk h))
/-- the view's own list of claims -/
theorem Raw.growCl {W w1 : World} {d : Nat} {G : Gh} (h : Raw W d G) {v' : Value} {x : Nat} (ha : App W w1 101 1 G.vc v' (G.ps.length + 1) (kP.flat (G.ps ++ [x]))) : Next W (w1.setCell ⟨d, 0, none⟩ v') d G { G with vc := v', ps := G.ps ++ [x] } := by
  have hf := app_set_fr (x := d) ha 0 v'
  have hsame : ∀ b, b < W.heap.size → b ≠ d → G.vc.ownBlock ≠ some b → (w1.setCell ⟨d, 0, none⟩ v').heap[b]? = W.heap[b]? := fun b hb h1 h2 => hf.block b hb (fun hx => hx.elim h1 h2)
  have hs : ∀ t, t ≠ 100 → t ≠ 101 → SameT W (w1.setCell ⟨d, 0, none⟩ v') t := fun t h1 h2 b hb => hsame b (ty_lt hb) (fun e => by rw [e, h.tyD] at hb; exact h1 (Option.some.inj hb).symm) (fun e => by rw [row_ty h.rc e] at hb; exact h2 (Option.some.inj hb).symm)
  have hm : ∀ b es c, W.heap[b]? = some (Obj.map es c) → (w1.setCell ⟨d, 0, none⟩ v').heap[b]? = W.heap[b]? := fun b es c hb => hsame b (heap_lt hb) (fun e => by rw [e, h.ob] at hb; cases hb) (row_no_map h.rc hb)
  have hdv : G.vc.ownBlock ≠ some d := fun e => by have := row_ty h.rc e; rw [h.tyD] at this; cases this
  refine ⟨?_, hf.mono (fun i _ hx => hx.elim (fun e => by rw [e]; exact own_d) own_vc), fun b hb => ?_⟩
  · exact { ob := (Go.heap_setCell_same w1 d 0 _ 100 _ ((ha.fr.block d (heap_lt h.ob) hdv).trans h.ob)).trans rfl
            ra := row_same h.ra (hs 58 (by decide) (by decide))
            rc := by
              show (w1.setCell ⟨d, 0, none⟩ v').ownsRow 0 101 1 v' (G.ps ++ [x]).length _
              rw [List.length_append]
              exact row_keep ha.row (fun g hg => Below.heap_setCell _ _ _ _ (fun e => ha.lt (heap_lt h.ob) hdv (by rw [hg]; exact congrArg some e)))
            rt := row_same h.rt (hs 116 (by decide) (by decide)), nd := h.nd
            cb := fun p hp => (hs 109 (by decide) (by decide) p (h.tyB hp)).trans (h.cb p hp)
            pr := fun p hp => row_same (h.pr p hp) (hs 112 (by decide) (by decide)), pi := h.pi
            mm := fun b hb => (h.mm b hb).keep_row (hm b), mn := h.mn, am := fun b hb => (h.am b hb).keep_row (hm b), an := h.an, mx := h.mx
            ac := fun k q hq => (hs 120 (by decide) (by decide) q (h.tyQ hq)).trans (h.ac k q hq)
            ar := fun k q hq => row_keep (h.ar k q hq) (fun g hg => hsame g (row_block (h.ar k q hq) hg).2.1 (fun e => by have := row_ty (h.ar k q hq) hg; rw [e, h.tyD] at this; cases this) (h.vi k g (ne_none hq) hg)), qi := h.qi, ai := h.ai
            vi := fun k g hk hg => by
              obtain ⟨q, hq⟩ := some_of hk
              exact ha.lt (row_block (h.ar k q hq) hg).2.1 (h.vi k g hk hg) }
  · exact own_elim hb (fun h => .inl (.inl h)) (fun h => by
      rcases ha.loc with h1 | ⟨g, h1, h2⟩
      · exact .inl (own_vc (h1.symm.trans h))
      · have h : v'.ownBlock = some b := h
        rw [h1] at h
        exact .inr (by rw [← Option.some.inj h]; exact h2)) (fun h => .inl (own_va h)) (fun h => .inl (own_vt h)) (fun h => .inl (own_bs h)) (fun p hp h => .inl (own_pv hp h)) (fun h => .inl (own_mk h)) (fun h => .inl (own_ma h)) (fun k h => .inl (own_qa h)) (fun k hk h => .inl (own_av hk h))
/-- what was allotted to a claim -/
def Gh.parted (G : Gh) (p : Nat) (v' : Value) (x : Int × Int) : Gh := { G with pv := fun y => if y = p then v' else G.pv y, pt := fun y => if y = p then G.pt p ++ [x] else G.pt y }
theorem Raw.growPt {W w1 : World} {d p : Nat} {G : Gh} (h : Raw W d G) (hp : p ∈ G.bs) {v' : Value} {x : Int × Int} (ha : App W w1 112 2 (G.pv p) v' ((G.pt p).length + 1) (kQ.flat (G.pt p ++ [x]))) : Next W (w1.setCell ⟨p, 6, none⟩ v') d G (G.parted p v' x) := by
  have hf := app_set_fr (x := p) ha 6 v'
  have hpr := h.pr p hp
  have hsame : ∀ b, b < W.heap.size → b ≠ p → (G.pv p).ownBlock ≠ some b → (w1.setCell ⟨p, 6, none⟩ v').heap[b]? = W.heap[b]? := fun b hb h1 h2 => hf.block b hb (fun hx => hx.elim h1 h2)
  have hs : ∀ t, t ≠ 109 → t ≠ 112 → SameT W (w1.setCell ⟨p, 6, none⟩ v') t := fun t h1 h2 b hb => hsame b (ty_lt hb) (fun e => by rw [e, h.tyB hp] at hb; exact h1 (Option.some.inj hb).symm) (fun e => by rw [row_ty hpr e] at hb; exact h2 (Option.some.inj hb).symm)
  have hm : ∀ b es c, W.heap[b]? = some (Obj.map es c) → (w1.setCell ⟨p, 6, none⟩ v').heap[b]? = W.heap[b]? := fun b es c hb => hsame b (heap_lt hb) (fun e => by rw [e, h.cb p hp] at hb; cases hb) (row_no_map hpr hb)
  have hpv : (G.pv p).ownBlock ≠ some p := fun e => by have := row_ty hpr e; rw [h.tyB hp] at this; cases this
  have hpvo : ∀ p' ∈ G.bs, (G.pv p).ownBlock ≠ some p' := fun p' hp' e => by have := row_ty hpr e; rw [h.tyB hp'] at this; cases this
  refine ⟨?_, hf.mono (fun i _ hx => hx.elim (fun e => by rw [e]; exact own_bs hp) (own_pv hp)), fun b hb => ?_⟩
  · exact { ob := (hs 100 (by decide) (by decide) d h.tyD).trans h.ob
            rc := row_same h.rc (hs 101 (by decide) (by decide)), ra := row_same h.ra (hs 58 (by decide) (by decide)), rt := row_same h.rt (hs 116 (by decide) (by decide)), nd := h.nd
            cb := fun p' hp' => by
              by_cases e : p' = p
              · subst e
                refine (Go.heap_setCell_same w1 p' 6 _ 109 _ ((ha.fr.block p' (heap_lt (h.cb p' hp)) hpv).trans (h.cb p' hp))).trans ?_
                unfold Gh.clV Gh.parted
                simp
              · rw [hsame p' (heap_lt (h.cb p' hp')) e (hpvo p' hp'), h.cb p' hp']
                unfold Gh.clV Gh.parted
                simp [e]
            pr := fun p' hp' => by
              by_cases e : p' = p
              · subst e
                have e1 : (G.parted p' v' x).pv p' = v' := by simp [Gh.parted]
                have e2 : (G.parted p' v' x).pt p' = G.pt p' ++ [x] := by simp [Gh.parted]
                rw [e1, e2, List.length_append]
                exact row_keep ha.row (fun g hg => Below.heap_setCell _ _ _ _ (fun e => ha.lt (heap_lt (h.cb p' hp)) hpv (by rw [hg]; exact congrArg some e)))
              · have e1 : (G.parted p v' x).pv p' = G.pv p' := by simp [Gh.parted, e]
                have e2 : (G.parted p v' x).pt p' = G.pt p' := by simp [Gh.parted, e]
                rw [e1, e2]
                exact row_keep (h.pr p' hp') (fun g hg => hsame g (row_block (h.pr p' hp') hg).2.1 (fun e3 => by have := row_ty (h.pr p' hp') hg; rw [e3, h.tyB hp] at this; cases this) (fun e3 => e (h.pi p' hp' p hp g hg e3)))
            pi := fun p1 h1 p2 h2 g hg1 hg2 => by
              by_cases e1 : p1 = p
              · by_cases e2 : p2 = p
                · rw [e1, e2]
                · have hg1 : (if p1 = p then v' else G.pv p1).ownBlock = some g := hg1
                  have hg2 : (if p2 = p then v' else G.pv p2).ownBlock = some g := hg2
                  rw [if_pos e1] at hg1
                  rw [if_neg e2] at hg2
                  exact absurd hg1 (ha.lt (row_block (h.pr p2 h2) hg2).2.1 (fun e3 => e2 (h.pi p2 h2 p hp g hg2 e3)))
              · have hg1 : (if p1 = p then v' else G.pv p1).ownBlock = some g := hg1
                have hg2 : (if p2 = p then v' else G.pv p2).ownBlock = some g := hg2
                rw [if_neg e1] at hg1
                by_cases e2 : p2 = p
                · rw [if_pos e2] at hg2
                  exact absurd hg2 (ha.lt (row_block (h.pr p1 h1) hg1).2.1 (fun e3 => e1 (h.pi p1 h1 p hp g hg1 e3)))
                · rw [if_neg e2] at hg2
                  exact h.pi p1 h1 p2 h2 g hg1 hg2
            mm := fun b hb => (h.mm b hb).keep_row (hm b), mn := h.mn, am := fun b hb => (h.am b hb).keep_row (hm b), an := h.an, mx := h.mx
            ac := fun k q hq => (hs 120 (by decide) (by decide) q (h.tyQ hq)).trans (h.ac k q hq)
            ar := fun k q hq => row_same (h.ar k q hq) (hs 101 (by decide) (by decide)), qi := h.qi, ai := h.ai, vi := h.vi }
  · exact own_elim hb (fun h => .inl (.inl h)) (fun h => .inl (own_vc h)) (fun h => .inl (own_va h)) (fun h => .inl (own_vt h)) (fun h => .inl (own_bs h)) (fun p' hp' h => by
      have h : (if p' = p then v' else G.pv p').ownBlock = some b := h
      by_cases e : p' = p
      · rw [if_pos e] at h
        rcases ha.loc with h1 | ⟨g, h1, h2⟩
        · exact .inl (own_pv hp (h1.symm.trans h))
        · rw [h1] at h
          exact .inr (by rw [← Option.some.inj h]; exact h2)
      · rw [if_neg e] at h
        exact .inl (own_pv hp' h)) (fun h => .inl (own_mk h)) (fun h => .inl (own_ma h)) (fun k h => .inl (own_qa h)) (fun k hk h => .inl (own_av hk h))
/-- an account's list of claims -/
def Gh.listed (G : Gh) (k : List UInt8) (v' : Value) (x : Nat) : Gh := { G with av := fun y => if y = k then v' else G.av y, ls := fun y => if y = k then G.ls k ++ [x] else G.ls y }
theorem Raw.growAc {W w1 : World} {d q : Nat} {k : List UInt8} {G : Gh} (h : Raw W d G) (hq : G.qa k = some q) {v' : Value} {x : Nat} (ha : App W w1 101 1 (G.av k) v' ((G.ls k).length + 1) (kP.flat (G.ls k ++ [x]))) : Next W (w1.setCell ⟨q, 0, none⟩ v') d G (G.listed k v' x) := by
  have hf := app_set_fr (x := q) ha 0 v'
  have hpr := h.ar k q hq
  have hkn := ne_none hq
  have hsame : ∀ b, b < W.heap.size → b ≠ q → (G.av k).ownBlock ≠ some b → (w1.setCell ⟨q, 0, none⟩ v').heap[b]? = W.heap[b]? := fun b hb h1 h2 => hf.block b hb (fun hx => hx.elim h1 h2)
  have hs : ∀ t, t ≠ 120 → t ≠ 101 → SameT W (w1.setCell ⟨q, 0, none⟩ v') t := fun t h1 h2 b hb => hsame b (ty_lt hb) (fun e => by rw [e, h.tyQ hq] at hb; exact h1 (Option.some.inj hb).symm) (fun e => by rw [row_ty hpr e] at hb; exact h2 (Option.some.inj hb).symm)
  have hm : ∀ b es c, W.heap[b]? = some (Obj.map es c) → (w1.setCell ⟨q, 0, none⟩ v').heap[b]? = W.heap[b]? := fun b es c hb => hsame b (heap_lt hb) (fun e => by rw [e, h.ac k q hq] at hb; cases hb) (row_no_map hpr hb)
  have hpv : (G.av k).ownBlock ≠ some q := fun e => by have := row_ty hpr e; rw [h.tyQ hq] at this; cases this
  refine ⟨?_, hf.mono (fun i _ hx => hx.elim (fun e => by rw [e]; exact own_qa hq) (own_av hkn)), fun b hb => ?_⟩
  · exact { ob := (hs 100 (by decide) (by decide) d h.tyD).trans h.ob
            rc := row_keep h.rc (fun g hg => hsame g (row_block h.rc hg).2.1 (fun e => by have := row_ty h.rc hg; rw [e, h.tyQ hq] at this; cases this) (fun e => h.vi k g hkn e hg))
            ra := row_same h.ra (hs 58 (by decide) (by decide)), rt := row_same h.rt (hs 116 (by decide) (by decide)), nd := h.nd
            cb := fun p hp => (hs 109 (by decide) (by decide) p (h.tyB hp)).trans (h.cb p hp)
            pr := fun p hp => row_same (h.pr p hp) (hs 112 (by decide) (by decide)), pi := h.pi
            mm := fun b hb => (h.mm b hb).keep_row (hm b), mn := h.mn, am := fun b hb => (h.am b hb).keep_row (hm b), an := h.an, mx := h.mx
            ac := fun k' q' hq' => by
              have hq' : G.qa k' = some q' := hq'
              by_cases e : k' = k
              · subst e
                have e2 : q' = q := Option.some.inj (hq'.symm.trans hq)
                subst e2
                refine (Go.heap_setCell_same w1 q' 0 _ 120 _ ((ha.fr.block q' (heap_lt (h.ac k' q' hq)) hpv).trans (h.ac k' q' hq))).trans ?_
                unfold Gh.acV Gh.listed
                simp
              · have e2 : q' ≠ q := fun e2 => e (h.qi k' k q' hq' (by rw [e2]; exact hq))
                rw [hsame q' (heap_lt (h.ac k' q' hq')) e2 (fun e3 => by have := row_ty hpr e3; rw [h.tyQ hq'] at this; cases this), h.ac k' q' hq']
                unfold Gh.acV Gh.listed
                simp [e]
            ar := fun k' q' hq' => by
              have hq' : G.qa k' = some q' := hq'
              by_cases e : k' = k
              · subst e
                have e1 : (G.listed k' v' x).av k' = v' := by simp [Gh.listed]
                have e2 : (G.listed k' v' x).ls k' = G.ls k' ++ [x] := by simp [Gh.listed]
                rw [e1, e2, List.length_append]
                exact row_keep ha.row (fun g hg => Below.heap_setCell _ _ _ _ (fun e => ha.lt (heap_lt (h.ac k' q hq)) hpv (by rw [hg]; exact congrArg some e)))
              · have e1 : (G.listed k v' x).av k' = G.av k' := by simp [Gh.listed, e]
                have e2 : (G.listed k v' x).ls k' = G.ls k' := by simp [Gh.listed, e]
                rw [e1, e2]
                exact row_keep (h.ar k' q' hq') (fun g hg => hsame g (row_block (h.ar k' q' hq') hg).2.1 (fun e3 => by have := row_ty (h.ar k' q' hq') hg; rw [e3, h.tyQ hq] at this; cases this) (fun e3 => e (h.ai k' k g (ne_none hq') hkn hg e3)))
            qi := h.qi
            ai := fun k1 k2 g h1 h2 hg1 hg2 => by
              have h1 : G.qa k1 ≠ none := h1
              have h2 : G.qa k2 ≠ none := h2
              have hg1 : (if k1 = k then v' else G.av k1).ownBlock = some g := hg1
              have hg2 : (if k2 = k then v' else G.av k2).ownBlock = some g := hg2
              by_cases e1 : k1 = k
              · by_cases e2 : k2 = k
                · rw [e1, e2]
                · rw [if_pos e1] at hg1
                  rw [if_neg e2] at hg2
                  obtain ⟨q2, hq2⟩ := some_of h2
                  exact absurd hg1 (ha.lt (row_block (h.ar k2 q2 hq2) hg2).2.1 (fun e3 => e2 (h.ai k2 k g h2 hkn hg2 e3)))
              · rw [if_neg e1] at hg1
                by_cases e2 : k2 = k
                · rw [if_pos e2] at hg2
                  obtain ⟨q1, hq1⟩ := some_of h1
                  exact absurd hg2 (ha.lt (row_block (h.ar k1 q1 hq1) hg1).2.1 (fun e3 => e1 (h.ai k1 k g h1 hkn hg1 e3)))
                · rw [if_neg e2] at hg2
                  exact h.ai k1 k2 g h1 h2 hg1 hg2
            vi := fun k1 g h1 hg1 hv => by
              have h1 : G.qa k1 ≠ none := h1
              have hg1 : (if k1 = k then v' else G.av k1).ownBlock = some g := hg1
              have hv : G.vc.ownBlock = some g := hv
              by_cases e1 : k1 = k
              · rw [if_pos e1] at hg1
                exact ha.lt (row_block h.rc hv).2.1 (fun e => h.vi k g hkn e hv) hg1
              · rw [if_neg e1] at hg1
                exact h.vi k1 g h1 hg1 hv }
  · exact own_elim hb (fun h => .inl (.inl h)) (fun h => .inl (own_vc h)) (fun h => .inl (own_va h)) (fun h => .inl (own_vt h)) (fun h => .inl (own_bs h)) (fun p hp h => .inl (own_pv hp h)) (fun h => .inl (own_mk h)) (fun h => .inl (own_ma h)) (fun k h => .inl (own_qa h)) (fun k' hk' h => by
      have h : (if k' = k then v' else G.av k').ownBlock = some b := h
      by_cases e : k' = k
      · rw [if_pos e] at h
        rcases ha.loc with h1 | ⟨g, h1, h2⟩
        · exact .inl (own_av hkn (h1.symm.trans h))
        · rw [h1] at h
          exact .inr (by rw [← Option.some.inj h]; exact h2)
      · rw [if_neg e] at h
        exact .inl (own_av hk' h))
end Go.Proofs.YtfclknlpdcanpaaGreatDoor
/- aged: a claim, maps, an account and a key that come anew. -/
namespace Go.Proofs.YtfclknlpdcanpaaGreatDoor
open Go Go.Shelf Go.ChangeShapes Go.WideShapes Go.ChangeAt Go.RowKit Go.Maps
set_option linter.unusedVariables false
/-- a claim's block is the view's -/
def Gh.reg (G : Gh) (p : Nat) (c : Cl) : Gh := { G with
  bs := G.bs ++ [p]
  cl := fun y => if y = p then c else G.cl y
  lf := fun y => if y = p then c.amt else G.lf y
  pt := fun y => if y = p then [] else G.pt y
  pv := fun y => if y = p then .slice none 0 0 else G.pv y
  sh := fun y => if y = p then (0, 0) else G.sh y }
def Cl.cells (c : Cl) : Array Value := #[.string c.key, .string c.acc, .int .i64 c.day, .int .i64 c.due, .int .i64 c.amt, .int .i64 c.amt, .slice none 0 0, .int .i64 0, .int .i64 0]
theorem Raw.reg {W : World} {d p : Nat} {G : Gh} {c : Cl} (h : Raw W d G) (hp : p ∉ G.bs) (hc : W.heap[p]? = some (.cells c.cells 109 (0, 0))) : Raw W d (G.reg p c) := by
  have hmem : ∀ y, y ∈ (G.reg p c).bs → y = p ∨ (y ∈ G.bs ∧ y ≠ p) := fun y hy => by
    rcases List.mem_append.1 hy with h1 | h1
    · exact .inr ⟨h1, fun e => hp (by rw [← e]; exact h1)⟩
    · exact .inl (List.mem_singleton.1 h1)
  refine { ob := h.ob, rc := h.rc, ra := h.ra, rt := h.rt, nd := ?_, cb := ?_, pr := ?_, pi := ?_, mm := h.mm, mn := h.mn, am := h.am, an := h.an, mx := h.mx, ac := h.ac, ar := h.ar, qi := h.qi, ai := h.ai, vi := h.vi }
  · show (G.bs ++ [p]).Nodup
    rw [List.nodup_append]
    exact ⟨h.nd, by simp, fun a ha b hb => by rw [List.mem_singleton] at hb; subst hb; exact fun e => hp (by rw [← e]; exact ha)⟩
  · intro y hy
    rcases hmem y hy with rfl | ⟨h1, h2⟩
    · rw [hc]; unfold Gh.clV Gh.reg Cl.cells; simp
    · rw [h.cb y h1]; unfold Gh.clV Gh.reg; simp [h2]
  · intro y hy
    rcases hmem y hy with rfl | ⟨h1, h2⟩
    · have e1 : (G.reg y c).pv y = .slice none 0 0 := by simp [Gh.reg]
      have e2 : (G.reg y c).pt y = [] := by simp [Gh.reg]
      rw [e1, e2]
      exact World.ownsRow_nil _ _ _ _
    · have e1 : (G.reg p c).pv y = G.pv y := by simp [Gh.reg, h2]
      have e2 : (G.reg p c).pt y = G.pt y := by simp [Gh.reg, h2]
      rw [e1, e2]
      exact h.pr y h1
  · intro y hy z hz g hg1 hg2
    have hg1 : (if y = p then (Value.slice none 0 0) else G.pv y).ownBlock = some g := hg1
    have hg2 : (if z = p then (Value.slice none 0 0) else G.pv z).ownBlock = some g := hg2
    rcases hmem y hy with rfl | ⟨h1, h2⟩
    · rw [if_pos rfl] at hg1; cases hg1
    · rcases hmem z hz with rfl | ⟨h3, h4⟩
      · rw [if_pos rfl] at hg2; cases hg2
      · rw [if_neg h2] at hg1
        rw [if_neg h4] at hg2
        exact h.pi y h1 z h3 g hg1 hg2
theorem own_reg {G : Gh} {d p b : Nat} {c : Cl} (hp : p ∉ G.bs) (h : (G.reg p c).own d b) : b = p ∨ G.own d b := by
  refine own_elim h (fun h => .inr (.inl h)) (fun h => .inr (own_vc h)) (fun h => .inr (own_va h)) (fun h => .inr (own_vt h)) (fun h => ?_) (fun y hy h => ?_) (fun h => .inr (own_mk h)) (fun h => .inr (own_ma h)) (fun k h => .inr (own_qa h)) (fun k hk h => .inr (own_av hk h))
  · rcases List.mem_append.1 h with h | h
    · exact .inr (own_bs h)
    · exact .inl (List.mem_singleton.1 h)
  · have h : (if y = p then (Value.slice none 0 0) else G.pv y).ownBlock = some b := h
    by_cases e : y = p
    · rw [if_pos e] at h; cases h
    · rw [if_neg e] at h
      rcases List.mem_append.1 hy with hy | hy
      · exact .inr (own_pv hy h)
      · exact absurd (List.mem_singleton.1 hy) e
/-- the two maps are made -/
theorem Raw.maps {W W' : World} {d b1 b2 : Nat} {G : Gh} (h : Raw W d G) (e1 : G.mb = none) (e2 : G.ma = none) (hf : Fr W W' (fun b => b = d)) (hd : W'.heap[d]? = some (.cells ({ G with mb := some b1, ma := some b2 } : Gh).agV 100 (0, 0))) (h1 : PMAt W' b1 G.nk (fun _ => none)) (h2 : PMAt W' b2 G.na (fun _ => none)) (l1 : W.heap.size ≤ b1) (l2 : W.heap.size ≤ b2) (hne : b1 ≠ b2) : Next W W' d G { G with mb := some b1, ma := some b2 } := by
  have hs : ∀ t, t ≠ 100 → SameT W W' t := fun t h1 b hb => hf.block b (ty_lt hb) (fun e => by rw [e, h.tyD] at hb; exact h1 (Option.some.inj hb).symm)
  have k0 : G.kf = fun _ => none := funext (h.mn e1)
  have q0 : G.qa = fun _ => none := funext (h.an e2)
  refine ⟨?_, hf.mono (fun i _ e => by rw [e]; exact own_d), fun b hb => ?_⟩
  · exact { ob := hd, rc := row_same h.rc (hs 101 (by decide)), ra := row_same h.ra (hs 58 (by decide)), rt := row_same h.rt (hs 116 (by decide)), nd := h.nd
            cb := fun p hp => (hs 109 (by decide) p (h.tyB hp)).trans (h.cb p hp)
            pr := fun p hp => row_same (h.pr p hp) (hs 112 (by decide)), pi := h.pi
            mm := fun b hb => by
              have : b1 = b := Option.some.inj hb
              subst this
              show PMAt W' b1 G.nk G.kf
              rw [k0]; exact h1
            mn := fun e => by cases e
            am := fun b hb => by
              have : b2 = b := Option.some.inj hb
              subst this
              show PMAt W' b2 G.na G.qa
              rw [q0]; exact h2
            an := fun e => by cases e
            mx := fun b hb hc => by
              have e1 : b1 = b := Option.some.inj hb
              have e2 : b2 = b := Option.some.inj hc
              omega
            ac := fun k q hq => by have hq : G.qa k = some q := hq; rw [q0] at hq; cases hq
            ar := fun k q hq => by have hq : G.qa k = some q := hq; rw [q0] at hq; cases hq
            qi := h.qi, ai := h.ai, vi := h.vi }
  · exact own_elim hb (fun h => .inl (.inl h)) (fun h => .inl (own_vc h)) (fun h => .inl (own_va h)) (fun h => .inl (own_vt h)) (fun h => .inl (own_bs h)) (fun p hp h => .inl (own_pv hp h)) (fun h => .inr (by have : b1 = b := Option.some.inj h; omega)) (fun h => .inr (by have : b2 = b := Option.some.inj h; omega)) (fun k h => .inl (own_qa h)) (fun k hk h => .inl (own_av hk h))
/-- an account comes -/
def Gh.acct (G : Gh) (k : List UInt8) (q : Nat) : Gh := { G with
  qa := fun y => if y = k then some q else G.qa y
  av := fun y => if y = k then .slice none 0 0 else G.av y
  ls := fun y => if y = k then [] else G.ls y
  nw := fun y j => if y = k then 0 else G.nw y j
  na := G.na + 1 }
theorem Raw.acct {W W' : World} {d b q : Nat} {k : List UInt8} {G : Gh} (h : Raw W d G) (hb : G.ma = some b) (hk : G.qa k = none) (hf : Fr W W' (fun x => x = b)) (hq : W'.heap[q]? = some (.cells #[.slice none 0 0, .int .i64 0, .int .i64 0, .int .i64 0, .int .i64 0, .int .i64 0] 120 (0, 0))) (hm : PMAt W' b (G.na + 1) (fun y => if y = k then some q else G.qa y)) (hql : W.heap.size ≤ q) : Next W W' d G (G.acct k q) := by
  obtain ⟨es0, c0, hb0⟩ := (h.am b hb).block
  have hs : ∀ t, SameT W W' t := fun t x hx => hf.block x (ty_lt hx) (fun e => by unfold tyAt at hx; rw [e, hb0] at hx; cases hx)
  have hx : ∀ y x, (G.acct k q).qa y = some x → (y = k ∧ x = q) ∨ (y ≠ k ∧ G.qa y = some x) := fun y x hy => by
    have hy : (if y = k then some q else G.qa y) = some x := hy
    by_cases e : y = k
    · rw [if_pos e] at hy; exact .inl ⟨e, (Option.some.inj hy).symm⟩
    · rw [if_neg e] at hy; exact .inr ⟨e, hy⟩
  refine ⟨?_, hf.mono (fun i _ e => by rw [e]; exact own_ma hb), fun x hb' => ?_⟩
  · refine { ob := (hs 100 d h.tyD).trans h.ob, rc := row_same h.rc (hs 101), ra := row_same h.ra (hs 58), rt := row_same h.rt (hs 116), nd := h.nd, cb := fun p hp => (hs 109 p (h.tyB hp)).trans (h.cb p hp), pr := fun p hp => row_same (h.pr p hp) (hs 112), pi := h.pi, mm := ?_, mn := h.mn, am := ?_, an := ?_, mx := h.mx, ac := ?_, ar := ?_, qi := ?_, ai := ?_, vi := ?_ }
    · intro x hx
      refine (h.mm x hx).keep_row (fun es c e => hf.block x (heap_lt e) (fun e2 => h.mx x hx (by rw [e2]; exact hb)))
    · intro x hx
      have e : b = x := Option.some.inj (hb.symm.trans hx)
      subst e
      exact hm
    · intro e
      have e : G.ma = none := e
      rw [hb] at e; cases e
    · intro y x hy
      rcases hx y x hy with ⟨rfl, rfl⟩ | ⟨e, hy2⟩
      · rw [hq]; unfold Gh.acV Gh.acct; simp
      · rw [(hs 120 x (h.tyQ hy2)), h.ac y x hy2]; unfold Gh.acV Gh.acct; simp [e]
    · intro y x hy
      rcases hx y x hy with ⟨rfl, rfl⟩ | ⟨e, hy2⟩
      · have e1 : (G.acct y x).av y = .slice none 0 0 := by simp [Gh.acct]
        have e2 : (G.acct y x).ls y = [] := by simp [Gh.acct]
        rw [e1, e2]
        exact World.ownsRow_nil _ _ _ _
      · have e1 : (G.acct k q).av y = G.av y := by simp [Gh.acct, e]
        have e2 : (G.acct k q).ls y = G.ls y := by simp [Gh.acct, e]
        rw [e1, e2]
        exact row_same (h.ar y x hy2) (hs 101)
    · intro y z x hy hz
      rcases hx y x hy with ⟨rfl, rfl⟩ | ⟨e, hy2⟩
      · rcases hx z x hz with ⟨rfl, _⟩ | ⟨e, hz2⟩
        · rfl
        · have := heap_lt (h.ac z x hz2); omega
      · rcases hx z x hz with ⟨rfl, rfl⟩ | ⟨e, hz2⟩
        · have := heap_lt (h.ac y x hy2); omega
        · exact h.qi y z x hy2 hz2
    · intro y z g hy hz hg1 hg2
      have hg1 : (if y = k then (Value.slice none 0 0) else G.av y).ownBlock = some g := hg1
      have hg2 : (if z = k then (Value.slice none 0 0) else G.av z).ownBlock = some g := hg2
      obtain ⟨x1, hy1⟩ := some_of hy
      obtain ⟨x2, hz1⟩ := some_of hz
      rcases hx y x1 hy1 with ⟨e1, _⟩ | ⟨e1, hy2⟩
      · rw [if_pos e1] at hg1; cases hg1
      · rcases hx z x2 hz1 with ⟨e2, _⟩ | ⟨e2, hz2⟩
        · rw [if_pos e2] at hg2; cases hg2
        · rw [if_neg e1] at hg1
          rw [if_neg e2] at hg2
          exact h.ai y z g (ne_none hy2) (ne_none hz2) hg1 hg2
    · intro y g hy hg1 hv
      have hg1 : (if y = k then (Value.slice none 0 0) else G.av y).ownBlock = some g := hg1
      obtain ⟨x1, hy1⟩ := some_of hy
      rcases hx y x1 hy1 with ⟨e1, _⟩ | ⟨e1, hy2⟩
      · rw [if_pos e1] at hg1; cases hg1
      · rw [if_neg e1] at hg1
        exact h.vi y g (ne_none hy2) hg1 hv
  · exact own_elim hb' (fun h => .inl (.inl h)) (fun h => .inl (own_vc h)) (fun h => .inl (own_va h)) (fun h => .inl (own_vt h)) (fun h => .inl (own_bs h)) (fun p hp h => .inl (own_pv hp h)) (fun h => .inl (own_mk h)) (fun h => .inl (own_ma h)) (fun y hy => by
      rcases hx y x hy with ⟨_, rfl⟩ | ⟨_, hy2⟩
      · exact .inr hql
      · exact .inl (own_qa hy2)) (fun y hy h => by
      have h : (if y = k then (Value.slice none 0 0) else G.av y).ownBlock = some x := h
      obtain ⟨x1, hy1⟩ := some_of hy
      rcases hx y x1 hy1 with ⟨e1, _⟩ | ⟨e1, hy2⟩
      · rw [if_pos e1] at h; cases h
      · rw [if_neg e1] at h
        exact .inl (own_av (ne_none hy2) h))
/-- a key comes -/
def Gh.keyed (G : Gh) (s : List UInt8) (p : Nat) : Gh := { G with kf := fun y => if y = s then some p else G.kf y, nk := G.nk + 1 }
theorem Raw.keyed {W W' : World} {d b p : Nat} {s : List UInt8} {G : Gh} (h : Raw W d G) (hb : G.mb = some b) (hf : Fr W W' (fun x => x = b)) (hm : PMAt W' b (G.nk + 1) (fun y => if y = s then some p else G.kf y)) : Next W W' d G (G.keyed s p) := by
  obtain ⟨es0, c0, hb0⟩ := (h.mm b hb).block
  have hs : ∀ t, SameT W W' t := fun t x hx => hf.block x (ty_lt hx) (fun e => by unfold tyAt at hx; rw [e, hb0] at hx; cases hx)
  refine ⟨?_, hf.mono (fun i _ e => by rw [e]; exact own_mk hb), fun x hb' => .inl hb'⟩
  exact { ob := (hs 100 d h.tyD).trans h.ob, rc := row_same h.rc (hs 101), ra := row_same h.ra (hs 58), rt := row_same h.rt (hs 116), nd := h.nd
          cb := fun p hp => (hs 109 p (h.tyB hp)).trans (h.cb p hp), pr := fun p hp => row_same (h.pr p hp) (hs 112), pi := h.pi
          mm := fun x hx => by
            have e : b = x := Option.some.inj (hb.symm.trans hx)
            subst e
            exact hm
          mn := fun e => by
            have e : G.mb = none := e
            rw [hb] at e; cases e
          am := fun x hx => (h.am x hx).keep_row (fun es c e => hf.block x (heap_lt e) (fun e2 => h.mx b hb (by rw [← e2]; exact hx)))
          an := h.an, mx := h.mx, ac := fun k q hq => (hs 120 q (h.tyQ hq)).trans (h.ac k q hq), ar := fun k q hq => row_same (h.ar k q hq) (hs 101), qi := h.qi, ai := h.ai, vi := h.vi }
end Go.Proofs.YtfclknlpdcanpaaGreatDoor
