/- aged: the view in memory: all that it owns, and how it changes. -/
import Derived.Test.YtildpgfhahmgmaaDoorHpE
namespace Go.Proofs.YtildpgfhahmgmaaDoor
open Go Go.Shelf Go.ChangeShapes Go.WideShapes Go.ChangeAt Go.RowKit Go.Maps
set_option linter.unusedVariables false
/-- what a view holds: its claims' blocks with what is in them, its lists, its maps, its accounts -/
structure Gh where
  bs : List Nat
  cl : Nat → Cl
  lf : Nat → Int
  pt : Nat → Pts
  pv : Nat → Value
  sh : Nat → Int × Int
  vc : Value
  ps : List Nat
  va : Value
  al : List Al
  vt : Value
  tn : List (Int × Nat)
  inv : Int
  gone : Int
  mb : Option Nat
  ma : Option Nat
  kf : List UInt8 → Option Nat
  qa : List UInt8 → Option Nat
  nk : Nat
  na : Nat
  av : List UInt8 → Value
  ls : List UInt8 → List Nat
  nw : List UInt8 → Nat → Int
def Gh.agV (G : Gh) : Array Value := #[G.vc, .map G.mb, .map G.ma, G.va, .int .i64 G.inv, .int .i64 G.gone, G.vt]
def Gh.clV (G : Gh) (p : Nat) : Array Value := #[.string (G.cl p).key, .string (G.cl p).acc, .int .i64 (G.cl p).day, .int .i64 (G.cl p).due, .int .i64 (G.cl p).amt, .int .i64 (G.lf p), G.pv p, .int .i64 (G.sh p).1, .int .i64 (G.sh p).2]
def Gh.acV (G : Gh) (k : List UInt8) : Array Value := #[G.av k, .int .i64 (G.nw k 0), .int .i64 (G.nw k 1), .int .i64 (G.nw k 2), .int .i64 (G.nw k 3), .int .i64 (G.nw k 4)]
structure Raw (W : World) (d : Nat) (G : Gh) : Prop where
  ob : W.heap[d]? = some (.cells G.agV 83 (0, 0))
  rc : W.ownsRow 0 84 1 G.vc G.ps.length (kP.flat G.ps)
  ra : W.ownsRow 0 51 4 G.va G.al.length (kA.flat G.al)
  rt : W.ownsRow 0 86 2 G.vt G.tn.length (kT.flat G.tn)
  nd : G.bs.Nodup
  cb : ∀ p ∈ G.bs, W.heap[p]? = some (.cells (G.clV p) 99 (0, 0))
  pr : ∀ p ∈ G.bs, W.ownsRow 0 105 2 (G.pv p) (G.pt p).length (kQ.flat (G.pt p))
  pi : ∀ p ∈ G.bs, ∀ p' ∈ G.bs, ∀ g, (G.pv p).ownBlock = some g → (G.pv p').ownBlock = some g → p = p'
  mm : ∀ b, G.mb = some b → PMAt W b G.nk G.kf
  mn : G.mb = none → ∀ k, G.kf k = none
  am : ∀ b, G.ma = some b → PMAt W b G.na G.qa
  an : G.ma = none → ∀ k, G.qa k = none
  mx : ∀ b, G.mb = some b → G.ma ≠ some b
  ac : ∀ k q, G.qa k = some q → W.heap[q]? = some (.cells (G.acV k) 91 (0, 0))
  ar : ∀ k q, G.qa k = some q → W.ownsRow 0 84 1 (G.av k) (G.ls k).length (kP.flat (G.ls k))
  qi : ∀ k k' q, G.qa k = some q → G.qa k' = some q → k = k'
  ai : ∀ k k' g, G.qa k ≠ none → G.qa k' ≠ none → (G.av k).ownBlock = some g → (G.av k').ownBlock = some g → k = k'
  vi : ∀ k g, G.qa k ≠ none → (G.av k).ownBlock = some g → G.vc.ownBlock ≠ some g
/-- the blocks that are the view's -/
def Gh.own (G : Gh) (d b : Nat) : Prop := b = d ∨ G.vc.ownBlock = some b ∨ G.va.ownBlock = some b ∨ G.vt.ownBlock = some b ∨ b ∈ G.bs ∨ (∃ p ∈ G.bs, (G.pv p).ownBlock = some b) ∨ G.mb = some b ∨ G.ma = some b ∨ (∃ k, G.qa k = some b) ∨ ∃ k, G.qa k ≠ none ∧ (G.av k).ownBlock = some b
theorem own_d {G : Gh} {d : Nat} : G.own d d := .inl rfl
theorem own_vc {G : Gh} {d b : Nat} (h : G.vc.ownBlock = some b) : G.own d b := .inr (.inl h)
theorem own_va {G : Gh} {d b : Nat} (h : G.va.ownBlock = some b) : G.own d b := .inr (.inr (.inl h))
theorem own_vt {G : Gh} {d b : Nat} (h : G.vt.ownBlock = some b) : G.own d b := .inr (.inr (.inr (.inl h)))
theorem own_bs {G : Gh} {d b : Nat} (h : b ∈ G.bs) : G.own d b := .inr (.inr (.inr (.inr (.inl h))))
theorem own_pv {G : Gh} {d b p : Nat} (hp : p ∈ G.bs) (h : (G.pv p).ownBlock = some b) : G.own d b := .inr (.inr (.inr (.inr (.inr (.inl ⟨p, hp, h⟩)))))
theorem own_mk {G : Gh} {d b : Nat} (h : G.mb = some b) : G.own d b := .inr (.inr (.inr (.inr (.inr (.inr (.inl h))))))
theorem own_ma {G : Gh} {d b : Nat} (h : G.ma = some b) : G.own d b := .inr (.inr (.inr (.inr (.inr (.inr (.inr (.inl h)))))))
theorem own_qa {G : Gh} {d b : Nat} {k : List UInt8} (h : G.qa k = some b) : G.own d b := .inr (.inr (.inr (.inr (.inr (.inr (.inr (.inr (.inl ⟨k, h⟩))))))))
theorem own_av {G : Gh} {d b : Nat} {k : List UInt8} (hk : G.qa k ≠ none) (h : (G.av k).ownBlock = some b) : G.own d b := .inr (.inr (.inr (.inr (.inr (.inr (.inr (.inr (.inr ⟨k, hk, h⟩))))))))
theorem some_of {α : Type} {o : Option α} (h : o ≠ none) : ∃ x, o = some x := by
  cases o with
  | none => exact absurd rfl h
  | some x => exact ⟨x, rfl⟩
theorem ne_none {α : Type} {o : Option α} {x : α} (h : o = some x) : o ≠ none := by rw [h]; exact fun e => by cases e
theorem Raw.lt {W : World} {d : Nat} {G : Gh} (h : Raw W d G) {b : Nat} (hb : G.own d b) : b < W.heap.size := by
  rcases hb with rfl | hb | hb | hb | hb | ⟨p, hp, hb⟩ | hb | hb | ⟨k, hb⟩ | ⟨k, hk, hb⟩
  · exact heap_lt h.ob
  · exact (row_block h.rc hb).2.1
  · exact (row_block h.ra hb).2.1
  · exact (row_block h.rt hb).2.1
  · exact heap_lt (h.cb b hb)
  · exact (row_block (h.pr p hp) hb).2.1
  · obtain ⟨es, c, e⟩ := (h.mm b hb).block; exact heap_lt e
  · obtain ⟨es, c, e⟩ := (h.am b hb).block; exact heap_lt e
  · exact heap_lt (h.ac k b hb)
  · obtain ⟨q, hq⟩ := some_of hk
    exact (row_block (h.ar k q hq) hb).2.1
theorem Raw.keep {W W' : World} {d : Nat} {G : Gh} (h : Raw W d G) (hk : ∀ b, G.own d b → W'.heap[b]? = W.heap[b]?) : Raw W' d G where
  ob := (hk d own_d).trans h.ob
  rc := row_keep h.rc fun g hg => hk g (own_vc hg)
  ra := row_keep h.ra fun g hg => hk g (own_va hg)
  rt := row_keep h.rt fun g hg => hk g (own_vt hg)
  nd := h.nd
  cb p hp := (hk p (own_bs hp)).trans (h.cb p hp)
  pr p hp := row_keep (h.pr p hp) fun g hg => hk g (own_pv hp hg)
  pi := h.pi
  mm b hb := (h.mm b hb).keep (hk b (own_mk hb))
  mn := h.mn
  am b hb := (h.am b hb).keep (hk b (own_ma hb))
  an := h.an
  mx := h.mx
  ac k q hq := (hk q (own_qa hq)).trans (h.ac k q hq)
  ar k q hq := row_keep (h.ar k q hq) fun g hg => hk g (own_av (ne_none hq) hg)
  qi := h.qi
  ai := h.ai
  vi := h.vi
theorem Raw.below {W W' : World} {d : Nat} {G : Gh} (h : Raw W d G) (hb : Below W.heap.size W W') : Raw W' d G := h.keep fun b hb' => hb.block b (h.lt hb')
/-- one step -/
structure Next (W W' : World) (d : Nat) (G G' : Gh) : Prop where
  raw : Raw W' d G'
  fr : Fr W W' (G.own d)
  own : ∀ b, G'.own d b → G.own d b ∨ W.heap.size ≤ b
theorem Next.refl {W : World} {d : Nat} {G : Gh} (h : Raw W d G) : Next W W d G G := ⟨h, Fr.refl _ _, fun b hb => .inl hb⟩
theorem Next.trans {W W1 W2 : World} {d : Nat} {G G1 G2 : Gh} (h : Next W W1 d G G1) (k : Next W1 W2 d G1 G2) : Next W W2 d G G2 :=
  ⟨k.raw, h.fr.trans k.fr (fun i hi hx => (h.own i hx).elim id (fun h => by omega)), fun b hb => (k.own b hb).elim (h.own b) (fun h2 => .inr (Nat.le_trans h.fr.size h2))⟩
theorem Next.below {W W1 W2 : World} {d : Nat} {G G1 : Gh} (h : Next W W1 d G G1) (k : Below W1.heap.size W1 W2) : Next W W2 d G G1 :=
  h.trans ⟨h.raw.below k, Fr.of_below k _, fun b hb => .inl hb⟩
theorem Next.drewN {W W1 : World} {d : Nat} {G G1 : Gh} (h : Next W W1 d G G1) (n : Nat) : Next W (W1.drewN n) d G G1 := ⟨h.raw.keep (fun _ _ => rfl), h.fr.drewN n, h.own⟩
/-- types tell blocks apart -/
theorem Raw.tyD {W : World} {d : Nat} {G : Gh} (h : Raw W d G) : tyAt W d = some 83 := ty_of h.ob
theorem Raw.tyB {W : World} {d : Nat} {G : Gh} (h : Raw W d G) {p : Nat} (hp : p ∈ G.bs) : tyAt W p = some 99 := ty_of (h.cb p hp)
theorem Raw.tyQ {W : World} {d : Nat} {G : Gh} (h : Raw W d G) {k : List UInt8} {q : Nat} (hq : G.qa k = some q) : tyAt W q = some 91 := ty_of (h.ac k q hq)
/-- nothing but numbers in the view's, the claims' and the accounts' blocks changes -/
theorem Raw.scalar {W W' : World} {d : Nat} {G G' : Gh} (h : Raw W d G) (e1 : G'.bs = G.bs) (e2 : G'.pt = G.pt) (e3 : G'.pv = G.pv) (e4 : G'.vc = G.vc) (e5 : G'.ps = G.ps) (e6 : G'.va = G.va) (e7 : G'.al = G.al) (e8 : G'.vt = G.vt) (e9 : G'.tn = G.tn) (e10 : G'.mb = G.mb) (e11 : G'.ma = G.ma) (e12 : G'.kf = G.kf) (e13 : G'.qa = G.qa) (e14 : G'.nk = G.nk) (e15 : G'.na = G.na) (e16 : G'.av = G.av) (e17 : G'.ls = G.ls)
    (hf : Fr W W' (fun b => b = d ∨ b ∈ G.bs ∨ ∃ k, G.qa k = some b)) (hd : W'.heap[d]? = some (.cells G'.agV 83 (0, 0))) (hc : ∀ p ∈ G.bs, W'.heap[p]? = some (.cells (G'.clV p) 99 (0, 0))) (hq : ∀ k q, G.qa k = some q → W'.heap[q]? = some (.cells (G'.acV k) 91 (0, 0))) : Next W W' d G G' := by
  have hs : ∀ t, t ≠ 83 → t ≠ 99 → t ≠ 91 → SameT W W' t := fun t h1 h2 h3 b hb => hf.block b (ty_lt hb) (fun hx => by
    rcases hx with rfl | hx | ⟨k, hx⟩
    · rw [h.tyD] at hb; exact h1 (Option.some.inj hb).symm
    · rw [h.tyB hx] at hb; exact h2 (Option.some.inj hb).symm
    · rw [h.tyQ hx] at hb; exact h3 (Option.some.inj hb).symm)
  have hm : ∀ b es c, W.heap[b]? = some (Obj.map es c) → W'.heap[b]? = W.heap[b]? := fun b es c hb => hf.block b (heap_lt hb) (fun hx => by
    rcases hx with rfl | hx | ⟨k, hx⟩
    · rw [h.ob] at hb; cases hb
    · rw [h.cb _ hx] at hb; cases hb
    · rw [h.ac _ _ hx] at hb; cases hb)
  have hown : ∀ b, G'.own d b → G.own d b := fun b hb => by
    unfold Gh.own at hb ⊢
    rw [e1, e3, e4, e6, e8, e10, e11, e13, e16] at hb
    exact hb
  refine ⟨?_, hf.mono (fun i _ hx => by
    rcases hx with rfl | hx | ⟨k, hx⟩
    · exact own_d
    · exact own_bs hx
    · exact own_qa hx), fun b hb => .inl (hown b hb)⟩
  refine { ob := hd, rc := ?_, ra := ?_, rt := ?_, nd := ?_, cb := ?_, pr := ?_, pi := ?_, mm := ?_, mn := ?_, am := ?_, an := ?_, mx := ?_, ac := ?_, ar := ?_, qi := ?_, ai := ?_, vi := ?_ }
  · rw [e4, e5]; exact row_same h.rc (hs 84 (by decide) (by decide) (by decide))
  · rw [e6, e7]; exact row_same h.ra (hs 51 (by decide) (by decide) (by decide))
  · rw [e8, e9]; exact row_same h.rt (hs 86 (by decide) (by decide) (by decide))
  · rw [e1]; exact h.nd
  · rw [e1]; exact hc
  · rw [e1, e2, e3]; exact fun p hp => row_same (h.pr p hp) (hs 105 (by decide) (by decide) (by decide))
  · rw [e1, e3]; exact h.pi
  · rw [e10, e12, e14]; exact fun b hb => (h.mm b hb).keep (by obtain ⟨es, c, e⟩ := (h.mm b hb).block; exact hm b es c e)
  · rw [e10, e12]; exact h.mn
  · rw [e11, e13, e15]; exact fun b hb => (h.am b hb).keep (by obtain ⟨es, c, e⟩ := (h.am b hb).block; exact hm b es c e)
  · rw [e11, e13]; exact h.an
  · rw [e10, e11]; exact h.mx
  · rw [e13]; exact hq
  · rw [e13, e16, e17]; exact fun k q hq => row_same (h.ar k q hq) (hs 84 (by decide) (by decide) (by decide))
  · rw [e13]; exact h.qi
  · rw [e13, e16]; exact h.ai
  · rw [e4, e13, e16]; exact h.vi
/-- other turns -/
theorem Raw.turns {W w' : World} {d : Nat} {G : Gh} (h : Raw W d G) {n' : Nat} {H' : List (Int × Nat)} (ht : Trn W w' d G.vc (.map G.mb) (.map G.ma) G.va (.int .i64 G.inv) (.int .i64 G.gone) G.vt n' H') : ∃ vt', Next W w' d G { G with vt := vt', tn := H' } := by
  obtain ⟨vt', hd, hr, hl⟩ := ht.row
  have hsame : ∀ b, b < W.heap.size → b ≠ d → G.vt.ownBlock ≠ some b → w'.heap[b]? = W.heap[b]? := fun b hb h1 h2 => ht.fr.block b hb (fun hx => hx.elim h1 h2)
  have hs : ∀ t, t ≠ 83 → t ≠ 86 → SameT W w' t := fun t h1 h2 b hb => hsame b (ty_lt hb) (fun e => by rw [e, h.tyD] at hb; exact h1 (Option.some.inj hb).symm) (fun e => by rw [row_ty h.rt e] at hb; exact h2 (Option.some.inj hb).symm)
  have hm : ∀ b es c, W.heap[b]? = some (Obj.map es c) → w'.heap[b]? = W.heap[b]? := fun b es c hb => hsame b (heap_lt hb) (fun e => by rw [e, h.ob] at hb; cases hb) (fun e => by
    obtain ⟨_, _, o, ho, hc⟩ := row_block h.rt e
    rw [hb] at ho; cases ho; cases hc)
  refine ⟨vt', ?_, ht.fr.mono (fun i _ hx => hx.elim (fun e => by rw [e]; exact own_d) own_vt), fun b hb => ?_⟩
  · exact { ob := hd, rc := row_same h.rc (hs 84 (by decide) (by decide)), ra := row_same h.ra (hs 51 (by decide) (by decide)), rt := by rw [ht.len]; exact hr, nd := h.nd
            cb := fun p hp => (hs 99 (by decide) (by decide) p (h.tyB hp)).trans (h.cb p hp)
            pr := fun p hp => row_same (h.pr p hp) (hs 105 (by decide) (by decide)), pi := h.pi
            mm := fun b hb => (h.mm b hb).keep (by obtain ⟨es, c, e⟩ := (h.mm b hb).block; exact hm b es c e), mn := h.mn
            am := fun b hb => (h.am b hb).keep (by obtain ⟨es, c, e⟩ := (h.am b hb).block; exact hm b es c e), an := h.an, mx := h.mx
            ac := fun k q hq => (hs 91 (by decide) (by decide) q (h.tyQ hq)).trans (h.ac k q hq)
            ar := fun k q hq => row_same (h.ar k q hq) (hs 84 (by decide) (by decide)), qi := h.qi, ai := h.ai, vi := h.vi }
  · rcases hb with hb | hb | hb | hb | hb | hb | hb | hb | hb | hb
    · exact .inl (.inl hb)
    · exact .inl (own_vc hb)
    · exact .inl (own_va hb)
    · rcases hl with h1 | ⟨g, h1, h2⟩
      · exact .inl (own_vt (h1.symm.trans hb))
      · have hb : vt'.ownBlock = some b := hb
        rw [h1] at hb
        exact .inr (by rw [← Option.some.inj hb]; exact h2)
    · exact .inl (own_bs hb)
    · obtain ⟨p, hp, hb⟩ := hb; exact .inl (own_pv hp hb)
    · exact .inl (own_mk hb)
    · exact .inl (own_ma hb)
    · obtain ⟨k, hb⟩ := hb; exact .inl (own_qa hb)
    · obtain ⟨k, hk, hb⟩ := hb; exact .inl (own_av hk hb)
end Go.Proofs.YtildpgfhahmgmaaDoor
