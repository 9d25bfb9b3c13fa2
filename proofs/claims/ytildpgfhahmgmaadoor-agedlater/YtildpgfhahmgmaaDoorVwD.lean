/- aged: a claim, maps, an account and a key that come anew. -/
import Derived.Test.YtildpgfhahmgmaaDoorVwC
namespace Go.Proofs.YtildpgfhahmgmaaDoor
open Go Go.Shelf Go.ChangeShapes Go.WideShapes Go.ChangeAt Go.RowKit Go.Maps
set_option linter.unusedVariables false
/-- a claim's block is the view's -/
def Gh.reg (G : Gh) (p : Nat) (c : Cl) : Gh := { G with
  bs := G.bs ++ [p]
  cl := fun y => if y = p then c else G.cl y
  lf := fun y => if y = p then c.amt else G.lf y
  pt := fun y => if y = p then [] else G.pt y
  pv := fun y => if y = p then .slice none 0 0 else G.pv y
  sh := fun y => if y = p then (0, 0) else G.sh y }
def Cl.cells (c : Cl) : Array Value := #[.string c.key, .string c.acc, .int .i64 c.day, .int .i64 c.due, .int .i64 c.amt, .int .i64 c.amt, .slice none 0 0, .int .i64 0, .int .i64 0]
theorem Raw.reg {W : World} {d p : Nat} {G : Gh} {c : Cl} (h : Raw W d G) (hp : p ∉ G.bs) (hc : W.heap[p]? = some (.cells c.cells 99 (0, 0))) : Raw W d (G.reg p c) := by
  have hmem : ∀ y, y ∈ (G.reg p c).bs → y = p ∨ (y ∈ G.bs ∧ y ≠ p) := fun y hy => by
    rcases List.mem_append.1 hy with h1 | h1
    · exact .inr ⟨h1, fun e => hp (by rw [← e]; exact h1)⟩
    · exact .inl (List.mem_singleton.1 h1)
  refine { ob := h.ob, rc := h.rc, ra := h.ra, rt := h.rt, nd := ?_, cb := ?_, pr := ?_, pi := ?_, mm := h.mm, mn := h.mn, am := h.am, an := h.an, mx := h.mx, ac := h.ac, ar := h.ar, qi := h.qi, ai := h.ai, vi := h.vi }
  · show (G.bs ++ [p]).Nodup
    rw [List.nodup_append]
    exact ⟨h.nd, by simp, fun a ha b hb => by rw [List.mem_singleton] at hb; subst hb; exact fun e => hp (by rw [← e]; exact ha)⟩
  · intro y hy
    rcases hmem y hy with rfl | ⟨h1, h2⟩
    · rw [hc]; unfold Gh.clV Gh.reg Cl.cells; simp
    · rw [h.cb y h1]; unfold Gh.clV Gh.reg; simp [h2]
  · intro y hy
    rcases hmem y hy with rfl | ⟨h1, h2⟩
    · have e1 : (G.reg y c).pv y = .slice none 0 0 := by simp [Gh.reg]
      have e2 : (G.reg y c).pt y = [] := by simp [Gh.reg]
      rw [e1, e2]
      exact World.ownsRow_nil _ _ _ _
    · have e1 : (G.reg p c).pv y = G.pv y := by simp [Gh.reg, h2]
      have e2 : (G.reg p c).pt y = G.pt y := by simp [Gh.reg, h2]
      rw [e1, e2]
      exact h.pr y h1
  · intro y hy z hz g hg1 hg2
    have hg1 : (if y = p then (Value.slice none 0 0) else G.pv y).ownBlock = some g := hg1
    have hg2 : (if z = p then (Value.slice none 0 0) else G.pv z).ownBlock = some g := hg2
    rcases hmem y hy with rfl | ⟨h1, h2⟩
    · rw [if_pos rfl] at hg1; cases hg1
    · rcases hmem z hz with rfl | ⟨h3, h4⟩
      · rw [if_pos rfl] at hg2; cases hg2
      · rw [if_neg h2] at hg1
        rw [if_neg h4] at hg2
        exact h.pi y h1 z h3 g hg1 hg2
theorem own_reg {G : Gh} {d p b : Nat} {c : Cl} (hp : p ∉ G.bs) (h : (G.reg p c).own d b) : b = p ∨ G.own d b := by
  refine own_elim h (fun h => .inr (.inl h)) (fun h => .inr (own_vc h)) (fun h => .inr (own_va h)) (fun h => .inr (own_vt h)) (fun h => ?_) (fun y hy h => ?_) (fun h => .inr (own_mk h)) (fun h => .inr (own_ma h)) (fun k h => .inr (own_qa h)) (fun k hk h => .inr (own_av hk h))
  · rcases List.mem_append.1 h with h | h
    · exact .inr (own_bs h)
    · exact .inl (List.mem_singleton.1 h)
  · have h : (if y = p then (Value.slice none 0 0) else G.pv y).ownBlock = some b := h
    by_cases e : y = p
    · rw [if_pos e] at h; cases h
    · rw [if_neg e] at h
      rcases List.mem_append.1 hy with hy | hy
      · exact .inr (own_pv hy h)
      · exact absurd (List.mem_singleton.1 hy) e
/-- the two maps are made -/
theorem Raw.maps {W W' : World} {d b1 b2 : Nat} {G : Gh} (h : Raw W d G) (e1 : G.mb = none) (e2 : G.ma = none) (hf : Fr W W' (fun b => b = d)) (hd : W'.heap[d]? = some (.cells ({ G with mb := some b1, ma := some b2 } : Gh).agV 83 (0, 0))) (h1 : PMAt W' b1 G.nk (fun _ => none)) (h2 : PMAt W' b2 G.na (fun _ => none)) (l1 : W.heap.size ≤ b1) (l2 : W.heap.size ≤ b2) (hne : b1 ≠ b2) : Next W W' d G { G with mb := some b1, ma := some b2 } := by
  have hs : ∀ t, t ≠ 83 → SameT W W' t := fun t h1 b hb => hf.block b (ty_lt hb) (fun e => by rw [e, h.tyD] at hb; exact h1 (Option.some.inj hb).symm)
  have k0 : G.kf = fun _ => none := funext (h.mn e1)
  have q0 : G.qa = fun _ => none := funext (h.an e2)
  refine ⟨?_, hf.mono (fun i _ e => by rw [e]; exact own_d), fun b hb => ?_⟩
  · exact { ob := hd, rc := row_same h.rc (hs 84 (by decide)), ra := row_same h.ra (hs 51 (by decide)), rt := row_same h.rt (hs 86 (by decide)), nd := h.nd
            cb := fun p hp => (hs 99 (by decide) p (h.tyB hp)).trans (h.cb p hp)
            pr := fun p hp => row_same (h.pr p hp) (hs 105 (by decide)), pi := h.pi
            mm := fun b hb => by
              have : b1 = b := Option.some.inj hb
              subst this
              show PMAt W' b1 G.nk G.kf
              rw [k0]; exact h1
            mn := fun e => by cases e
            am := fun b hb => by
              have : b2 = b := Option.some.inj hb
              subst this
              show PMAt W' b2 G.na G.qa
              rw [q0]; exact h2
            an := fun e => by cases e
            mx := fun b hb hc => by
              have e1 : b1 = b := Option.some.inj hb
              have e2 : b2 = b := Option.some.inj hc
              omega
            ac := fun k q hq => by have hq : G.qa k = some q := hq; rw [q0] at hq; cases hq
            ar := fun k q hq => by have hq : G.qa k = some q := hq; rw [q0] at hq; cases hq
            qi := h.qi, ai := h.ai, vi := h.vi }
  · exact own_elim hb (fun h => .inl (.inl h)) (fun h => .inl (own_vc h)) (fun h => .inl (own_va h)) (fun h => .inl (own_vt h)) (fun h => .inl (own_bs h)) (fun p hp h => .inl (own_pv hp h)) (fun h => .inr (by have : b1 = b := Option.some.inj h; omega)) (fun h => .inr (by have : b2 = b := Option.some.inj h; omega)) (fun k h => .inl (own_qa h)) (fun k hk h => .inl (own_av hk h))
/-- an account comes -/
def Gh.acct (G : Gh) (k : List UInt8) (q : Nat) : Gh := { G with
  qa := fun y => if y = k then some q else G.qa y
  av := fun y => if y = k then .slice none 0 0 else G.av y
  ls := fun y => if y = k then [] else G.ls y
  nw := fun y j => if y = k then 0 else G.nw y j
  na := G.na + 1 }
theorem Raw.acct {W W' : World} {d b q : Nat} {k : List UInt8} {G : Gh} (h : Raw W d G) (hb : G.ma = some b) (hk : G.qa k = none) (hf : Fr W W' (fun x => x = b)) (hq : W'.heap[q]? = some (.cells #[.slice none 0 0, .int .i64 0, .int .i64 0, .int .i64 0, .int .i64 0, .int .i64 0] 91 (0, 0))) (hm : PMAt W' b (G.na + 1) (fun y => if y = k then some q else G.qa y)) (hql : W.heap.size ≤ q) : Next W W' d G (G.acct k q) := by
  obtain ⟨es0, c0, hb0⟩ := (h.am b hb).block
  have hs : ∀ t, SameT W W' t := fun t x hx => hf.block x (ty_lt hx) (fun e => by unfold tyAt at hx; rw [e, hb0] at hx; cases hx)
  have hx : ∀ y x, (G.acct k q).qa y = some x → (y = k ∧ x = q) ∨ (y ≠ k ∧ G.qa y = some x) := fun y x hy => by
    have hy : (if y = k then some q else G.qa y) = some x := hy
    by_cases e : y = k
    · rw [if_pos e] at hy; exact .inl ⟨e, (Option.some.inj hy).symm⟩
    · rw [if_neg e] at hy; exact .inr ⟨e, hy⟩
  refine ⟨?_, hf.mono (fun i _ e => by rw [e]; exact own_ma hb), fun x hb' => ?_⟩
  · refine { ob := (hs 83 d h.tyD).trans h.ob, rc := row_same h.rc (hs 84), ra := row_same h.ra (hs 51), rt := row_same h.rt (hs 86), nd := h.nd, cb := fun p hp => (hs 99 p (h.tyB hp)).trans (h.cb p hp), pr := fun p hp => row_same (h.pr p hp) (hs 105), pi := h.pi, mm := ?_, mn := h.mn, am := ?_, an := ?_, mx := h.mx, ac := ?_, ar := ?_, qi := ?_, ai := ?_, vi := ?_ }
    · intro x hx
      refine (h.mm x hx).keep_row (fun es c e => hf.block x (heap_lt e) (fun e2 => h.mx x hx (by rw [e2]; exact hb)))
    · intro x hx
      have e : b = x := Option.some.inj (hb.symm.trans hx)
      subst e
      exact hm
    · intro e
      have e : G.ma = none := e
      rw [hb] at e; cases e
    · intro y x hy
      rcases hx y x hy with ⟨rfl, rfl⟩ | ⟨e, hy2⟩
      · rw [hq]; unfold Gh.acV Gh.acct; simp
      · rw [(hs 91 x (h.tyQ hy2)), h.ac y x hy2]; unfold Gh.acV Gh.acct; simp [e]
    · intro y x hy
      rcases hx y x hy with ⟨rfl, rfl⟩ | ⟨e, hy2⟩
      · have e1 : (G.acct y x).av y = .slice none 0 0 := by simp [Gh.acct]
        have e2 : (G.acct y x).ls y = [] := by simp [Gh.acct]
        rw [e1, e2]
        exact World.ownsRow_nil _ _ _ _
      · have e1 : (G.acct k q).av y = G.av y := by simp [Gh.acct, e]
        have e2 : (G.acct k q).ls y = G.ls y := by simp [Gh.acct, e]
        rw [e1, e2]
        exact row_same (h.ar y x hy2) (hs 84)
    · intro y z x hy hz
      rcases hx y x hy with ⟨rfl, rfl⟩ | ⟨e, hy2⟩
      · rcases hx z x hz with ⟨rfl, _⟩ | ⟨e, hz2⟩
        · rfl
        · have := heap_lt (h.ac z x hz2); omega
      · rcases hx z x hz with ⟨rfl, rfl⟩ | ⟨e, hz2⟩
        · have := heap_lt (h.ac y x hy2); omega
        · exact h.qi y z x hy2 hz2
    · intro y z g hy hz hg1 hg2
      have hg1 : (if y = k then (Value.slice none 0 0) else G.av y).ownBlock = some g := hg1
      have hg2 : (if z = k then (Value.slice none 0 0) else G.av z).ownBlock = some g := hg2
      obtain ⟨x1, hy1⟩ := some_of hy
      obtain ⟨x2, hz1⟩ := some_of hz
      rcases hx y x1 hy1 with ⟨e1, _⟩ | ⟨e1, hy2⟩
      · rw [if_pos e1] at hg1; cases hg1
      · rcases hx z x2 hz1 with ⟨e2, _⟩ | ⟨e2, hz2⟩
        · rw [if_pos e2] at hg2; cases hg2
        · rw [if_neg e1] at hg1
          rw [if_neg e2] at hg2
          exact h.ai y z g (ne_none hy2) (ne_none hz2) hg1 hg2
    · intro y g hy hg1 hv
      have hg1 : (if y = k then (Value.slice none 0 0) else G.av y).ownBlock = some g := hg1
      obtain ⟨x1, hy1⟩ := some_of hy
      rcases hx y x1 hy1 with ⟨e1, _⟩ | ⟨e1, hy2⟩
      · rw [if_pos e1] at hg1; cases hg1
      · rw [if_neg e1] at hg1
        exact h.vi y g (ne_none hy2) hg1 hv
  · exact own_elim hb' (fun h => .inl (.inl h)) (fun h => .inl (own_vc h)) (fun h => .inl (own_va h)) (fun h => .inl (own_vt h)) (fun h => .inl (own_bs h)) (fun p hp h => .inl (own_pv hp h)) (fun h => .inl (own_mk h)) (fun h => .inl (own_ma h)) (fun y hy => by
      rcases hx y x hy with ⟨_, rfl⟩ | ⟨_, hy2⟩
      · exact .inr hql
      · exact .inl (own_qa hy2)) (fun y hy h => by
      have h : (if y = k then (Value.slice none 0 0) else G.av y).ownBlock = some x := h
      obtain ⟨x1, hy1⟩ := some_of hy
      rcases hx y x1 hy1 with ⟨e1, _⟩ | ⟨e1, hy2⟩
      · rw [if_pos e1] at h; cases h
      · rw [if_neg e1] at h
        exact .inl (own_av (ne_none hy2) h))
/-- a key comes -/
def Gh.keyed (G : Gh) (s : List UInt8) (p : Nat) : Gh := { G with kf := fun y => if y = s then some p else G.kf y, nk := G.nk + 1 }
theorem Raw.keyed {W W' : World} {d b p : Nat} {s : List UInt8} {G : Gh} (h : Raw W d G) (hb : G.mb = some b) (hf : Fr W W' (fun x => x = b)) (hm : PMAt W' b (G.nk + 1) (fun y => if y = s then some p else G.kf y)) : Next W W' d G (G.keyed s p) := by
  obtain ⟨es0, c0, hb0⟩ := (h.mm b hb).block
  have hs : ∀ t, SameT W W' t := fun t x hx => hf.block x (ty_lt hx) (fun e => by unfold tyAt at hx; rw [e, hb0] at hx; cases hx)
  refine ⟨?_, hf.mono (fun i _ e => by rw [e]; exact own_mk hb), fun x hb' => .inl hb'⟩
  exact { ob := (hs 83 d h.tyD).trans h.ob, rc := row_same h.rc (hs 84), ra := row_same h.ra (hs 51), rt := row_same h.rt (hs 86), nd := h.nd
          cb := fun p hp => (hs 99 p (h.tyB hp)).trans (h.cb p hp), pr := fun p hp => row_same (h.pr p hp) (hs 105), pi := h.pi
          mm := fun x hx => by
            have e : b = x := Option.some.inj (hb.symm.trans hx)
            subst e
            exact hm
          mn := fun e => by
            have e : G.mb = none := e
            rw [hb] at e; cases e
          am := fun x hx => (h.am x hx).keep_row (fun es c e => hf.block x (heap_lt e) (fun e2 => h.mx b hb (by rw [← e2]; exact hx)))
          an := h.an, mx := h.mx, ac := fun k q hq => (hs 91 q (h.tyQ hq)).trans (h.ac k q hq), ar := fun k q hq => row_same (h.ar k q hq) (hs 84), qi := h.qi, ai := h.ai, vi := h.vi }
end Go.Proofs.YtildpgfhahmgmaaDoor
