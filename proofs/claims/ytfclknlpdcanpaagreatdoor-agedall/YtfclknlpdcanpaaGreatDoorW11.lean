import Derived.Test.YtfclknlpdcanpaaGreatDoorW09
import Derived.Test.YtfclknlpdcanpaaGreatDoorW10
import Derived.Deep.DeepCutAuto
/- aged: keep (45). -/
namespace Go.Proofs.YtfclknlpdcanpaaGreatDoor
open Go Go.Shelf Go.ChangeShapes Go.WideShapes Go.ChangeAt Go.RowKit Go.Maps
set_option linter.unusedVariables false
/-- what the view is where a claim is to be kept -/
structure KeepIn (W : World) (d p : Nat) (G : Gh) : Prop where
  raw : Raw W d G
  mem : p ∈ G.bs
  km : G.mb = none ↔ G.ma = none
  no : ∀ y, G.qa y = none → G.ls y = [] ∧ ∀ j, G.nw y j = 0
  ok : ShowOK G p
  st : Stp W
  z : ¬ G.own d 0
  hp : Hp (dy G.tn) G.tn.length
  l1 : G.ps.length ≤ 1000
  l2 : (G.ls (G.key p)).length ≤ 1000
  l3 : G.tn.length ≤ 100000
  l4 : G.nk ≤ 1000
  l5 : G.na ≤ 1000
  ksz : (G.cl p).key.size ≤ maxLen
/-- what it is behind that -/
structure KeepOut (W w' : World) (d p : Nat) (G G' : Gh) : Prop where
  next : Next W w' d G G'
  bs : G'.bs = G.bs
  cl : G'.cl = G.cl
  lf : G'.lf = G.lf
  pt : G'.pt = G.pt
  pv : G'.pv = G.pv
  al : G'.al = G.al
  inv : G'.inv = G.inv
  gone : G'.gone = G.gone
  ps : G'.ps = G.ps ++ [p]
  kf : G'.kf = fun y => if y = (G.cl p).key.data.toList then some p else G.kf y
  qa : ∀ y, G'.qa y ≠ none ↔ G.qa y ≠ none ∨ y = G.key p
  ls : G'.ls = fun y => if y = G.key p then G.ls y ++ [p] else G.ls y
  sh : G'.sh = fun y => if y = p then shr (G.cl p) (G.pt p) (1 + G.gone) else G.sh y
  nw : G'.nw = (G.shown p (shr (G.cl p) (G.pt p) (1 + G.gone))).nw
  tm : Marks G p (trn5 (G.cl p)) G'.tn
  mb : G'.mb ≠ none
  ma : G'.ma ≠ none
  nk : G'.nk ≤ G.nk + 1
  na : G'.na ≤ G.na + 1
def KeptOut (W w' : World) (d p : Nat) (G : Gh) : Prop := ∃ G', KeepOut W w' d p G G'
theorem ShowOK.of {G G' : Gh} {p : Nat} (h : ShowOK G p) (e1 : G'.cl = G.cl) (e2 : G'.pt = G.pt) (e3 : G'.sh = G.sh) (e4 : G'.gone = G.gone) (e5 : G'.nw = G.nw) : ShowOK G' p := by
  have ek : G'.key p = G.key p := by unfold Gh.key; rw [e1]
  refine ⟨by rw [e2]; exact h.len, by rw [e2]; exact h.pos, by rw [e1, e2]; exact h.sum, by rw [e1]; exact h.amt, by rw [e1]; exact h.due, by rw [e4]; exact h.gone, by rw [e3]; exact h.age, by rw [e1]; exact h.sz, by rw [ek, e3, e5]; exact h.less, ?_⟩
  have e6 : ∀ s j, (G'.shown p s).nw (G'.key p) j = (G.shown p s).nw (G.key p) j := fun s j => by
    unfold Gh.shown
    simp only [ek, e3, e5]
  intro j hj
  rw [e6, e1, e2, e4]
  exact h.more j hj
theorem eqp_none (w : World) (t : TypeId) (h : t = 118 ∨ t = 101) : (binOp .eql t (.pointer none) (.pointer none)).run Tryz.prog w = .ok (.bool true) w := by
  rcases h with rfl | rfl
  · kernel_rfl
  · kernel_rfl
theorem eqm_none (w : World) : (binOp .eql 95 (.map none) (.map none)).run Tryz.prog w = .ok (.bool true) w := by
  simp only [binOp]
  simp [run_equal_map_nil w 95 9 101 none und78]
theorem eqm_some (b : Nat) (w : World) : (binOp .eql 95 (.map (some b)) (.map none)).run Tryz.prog w = .ok (.bool false) w := by
  simp only [binOp]
  simp [run_equal_map_nil w 95 9 101 (some b) und78]
/-- what is kept between the steps -/
structure Mid (W W1 : World) (d p : Nat) (G G1 : Gh) : Prop where
  next : Next W W1 d G G1
  bs : G1.bs = G.bs
  cl : G1.cl = G.cl
  lf : G1.lf = G.lf
  pt : G1.pt = G.pt
  pv : G1.pv = G.pv
  al : G1.al = G.al
  inv : G1.inv = G.inv
  gone : G1.gone = G.gone
  tn : G1.tn = G.tn
  sh : G1.sh = G.sh
  nw : G1.nw = G.nw
theorem step6 {W : World} {d p q : Nat} {k : List UInt8} {G : Gh} (h : Raw W d G) (hq : G.qa k = some q) (hl : (G.ls k).length ≤ 1000) : ∃ p' c' w', (Builtin.append_ #[94, 94] 94 #[G.av k, .slice (some ⟨W.heap.size, 0, none⟩) 1 1]).run Tryz.prog (W.alloc (.cells #[ptr p] 101)) = .ok (.slice p' ((G.ls k).length + 1) c') w' ∧ Next W (w'.setCell ⟨q, 0, none⟩ (.slice p' ((G.ls k).length + 1) c')) d G (G.listed k (.slice p' ((G.ls k).length + 1) c') p) ∧ W.cell? ⟨q, 0, none⟩ = some (G.av k) ∧ w'.cell? ⟨q, 0, none⟩ = some (G.av k) ∧ w'.frozen? ⟨q, 0, none⟩ = false := by
  obtain ⟨p', c', w', h1, h2⟩ := app_one kP_ok (h.ar k q hq) (by omega) p #[ptr p] rfl 94 101
  have hb : w'.heap[q]? = W.heap[q]? := h2.fr.block q (heap_lt (h.ac k q hq)) (fun e => by have := row_ty (h.ar k q hq) e; rw [h.tyQ hq] at this; cases this)
  have hac := h.ac k q hq
  refine ⟨p', c', w', h1, h.growAc hq h2, by simp [World.cell?, hac, Gh.acV], by simp [World.cell?, hb, hac, Gh.acV], by simp [World.frozen?, hb, hac]⟩
theorem step7 {W : World} {d p : Nat} {G : Gh} (h : Raw W d G) (hl : G.ps.length ≤ 1000) : ∃ p' c' w', (Builtin.append_ #[94, 94] 94 #[G.vc, .slice (some ⟨W.heap.size, 0, none⟩) 1 1]).run Tryz.prog (W.alloc (.cells #[ptr p] 101)) = .ok (.slice p' (G.ps.length + 1) c') w' ∧ Next W (w'.setCell ⟨d, 0, none⟩ (.slice p' (G.ps.length + 1) c')) d G { G with vc := .slice p' (G.ps.length + 1) c', ps := G.ps ++ [p] } ∧ W.cell? ⟨d, 0, none⟩ = some G.vc ∧ w'.cell? ⟨d, 0, none⟩ = some G.vc ∧ w'.frozen? ⟨d, 0, none⟩ = false := by
  obtain ⟨p', c', w', h1, h2⟩ := app_one kP_ok h.rc (by omega) p #[ptr p] rfl 94 101
  have hb : w'.heap[d]? = W.heap[d]? := h2.fr.block d (heap_lt h.ob) (fun e => by have := row_ty h.rc e; rw [h.tyD] at this; cases this)
  have hac := h.ob
  refine ⟨p', c', w', h1, h.growCl h2, by simp [World.cell?, hac, Gh.agV], by simp [World.cell?, hb, hac, Gh.agV], by simp [World.frozen?, hb, hac]⟩
theorem fr_grown {W w' : World} {b : Nat} (hg : W.grownBy w' (some b)) : Fr W w' (fun x => x = b) := ⟨hg.os, hg.tape, hg.output, hg.size, fun k hk hx => hg.block k hk (fun e => hx (Option.some.inj e))⟩
theorem step8 {W : World} {d p b : Nat} {G : Gh} {s : ByteArray} (h : Raw W d G) (hb : G.mb = some b) (hn : G.nk ≤ 1000) (hs : s.size ≤ maxLen) : ∃ w', (Instr.mapUpdate 95 (.map (some b)) (.string s) (ptr p)).run Tryz.prog W = .ok () w' ∧ Next W w' d G (G.keyed s.data.toList p) := by
  obtain ⟨w', h1, h2, h3⟩ := (h.mm b hb).set und78 (by unfold maxLen; omega) hs p
  exact ⟨w', h1, h.keyed hb (fr_grown h3) h2⟩
theorem step5 {W : World} {d b : Nat} {G : Gh} {s : ByteArray} (h : Raw W d G) (hb : G.ma = some b) (hn : G.na ≤ 1000) (hs : s.size ≤ maxLen) (hk : G.qa s.data.toList = none) : ∃ w', (Instr.mapUpdate 96 (.map (some b)) (.string s) (ptr W.heap.size)).run Tryz.prog (W.alloc (.cells #[.slice none 0 0, .int .i64 0, .int .i64 0, .int .i64 0, .int .i64 0, .int .i64 0] 120)).drew = .ok () w' ∧ Next W w' d G (G.acct s.data.toList W.heap.size) := by
  obtain ⟨o, ho⟩ : ∃ o, o = Obj.cells #[.slice none 0 0, .int .i64 0, .int .i64 0, .int .i64 0, .int .i64 0, .int .i64 0] 120 (0, 0) := ⟨_, rfl⟩
  obtain ⟨es, c, he⟩ := (h.am b hb).block
  have hbl := heap_lt he
  have hk1 : PMAt (W.alloc o).drew b G.na G.qa := (h.am b hb).keep (Below.heap_alloc _ _ _ hbl)
  obtain ⟨w', h1, h2, h3⟩ := hk1.set und79 (by unfold maxLen; omega) hs W.heap.size
  rw [ho] at h1
  refine ⟨w', h1, h.acct hb hk ?_ ?_ h2 (Nat.le_refl _)⟩
  · exact (((Fr.refl W _).alloc o).drew).trans (fr_grown h3) (fun _ _ h => h)
  · rw [h3.block W.heap.size (by simp) (fun e => by have := Option.some.inj e; omega)]
    show (W.alloc o).heap[W.heap.size]? = _
    rw [heap_new, ho]
theorem run_wp_mapUpdate_nop : True := trivial
/-- the view with the claim put into its lists and under its key -/
structure Kept8 (G G8 : Gh) (p : Nat) (k : List UInt8) : Prop where
  bs : G8.bs = G.bs
  cl : G8.cl = G.cl
  lf : G8.lf = G.lf
  pt : G8.pt = G.pt
  pv : G8.pv = G.pv
  al : G8.al = G.al
  inv : G8.inv = G.inv
  gone : G8.gone = G.gone
  tn : G8.tn = G.tn
  sh : G8.sh = G.sh
  nw : G8.nw = G.nw
  ps : G8.ps = G.ps ++ [p]
  kf : G8.kf = fun y => if y = (G.cl p).key.data.toList then some p else G.kf y
  qa : G8.qa = G.qa
  ls : G8.ls = fun y => if y = k then G.ls k ++ [p] else G.ls y
  mb : G8.mb = G.mb
  ma : G8.ma = G.ma
  nk : G8.nk = G.nk + 1
  na : G8.na = G.na
structure Tail8 (W1 : World) (d p q b1 : Nat) (k : List UInt8) (G1 : Gh) (p6 : Option Addr) (c6 n6 : Nat) (w6 : World) (p7 : Option Addr) (c7 n7 : Nat) (w7 w8 : World) (G8 : Gh) : Prop where
  r6 : (Builtin.append_ #[94, 94] 94 #[G1.av k, .slice (some ⟨W1.heap.size, 0, none⟩) 1 1]).run Tryz.prog (W1.alloc (.cells #[.pointer (some ⟨p, 0, none⟩)] 101)) = .ok (.slice p6 n6 c6) w6
  l6 : W1.cell? ⟨q, 0, none⟩ = some (G1.av k)
  m6 : w6.cell? ⟨q, 0, none⟩ = some (G1.av k)
  f6 : w6.frozen? ⟨q, 0, none⟩ = false
  r7 : (Builtin.append_ #[94, 94] 94 #[G1.vc, .slice (some ⟨w6.heap.size, 0, none⟩) 1 1]).run Tryz.prog ((w6.setCell ⟨q, 0, none⟩ (.slice p6 n6 c6)).alloc (.cells #[.pointer (some ⟨p, 0, none⟩)] 101)) = .ok (.slice p7 n7 c7) w7
  l7 : (w6.setCell ⟨q, 0, none⟩ (.slice p6 n6 c6)).cell? ⟨d, 0, none⟩ = some G1.vc
  m7 : w7.cell? ⟨d, 0, none⟩ = some G1.vc
  f7 : w7.frozen? ⟨d, 0, none⟩ = false
  m1 : (w7.setCell ⟨d, 0, none⟩ (.slice p7 n7 c7)).drew.cell? ⟨d, 1, none⟩ = some (.map (some b1))
  m0 : (w7.setCell ⟨d, 0, none⟩ (.slice p7 n7 c7)).drew.cell? ⟨p, 0, none⟩ = some (.string (G1.cl p).key)
  r8 : (Instr.mapUpdate 95 (.map (some b1)) (.string (G1.cl p).key) (.pointer (some ⟨p, 0, none⟩))).run Tryz.prog (w7.setCell ⟨d, 0, none⟩ (.slice p7 n7 c7)).drew = .ok () w8
  next : Next W1 w8 d G1 G8
  kept : Kept8 G1 G8 p k
theorem tail8 {W1 : World} {d p q b1 : Nat} {k : List UInt8} {G1 : Gh} (h : Raw W1 d G1) (hq : G1.qa k = some q) (hb1 : G1.mb = some b1) (hp : p ∈ G1.bs) (hl : (G1.ls k).length ≤ 1000) (hl2 : G1.ps.length ≤ 1000) (hl3 : G1.nk ≤ 1000) (hs : (G1.cl p).key.size ≤ maxLen) : ∃ p6 c6 n6 w6 p7 c7 n7 w7 w8 G8, Tail8 W1 d p q b1 k G1 p6 c6 n6 w6 p7 c7 n7 w7 w8 G8 := by
  obtain ⟨p6, c6, w6, hr6, hn6, l6, m6, f6⟩ := step6 (p := p) h hq hl
  obtain ⟨W6, hW6⟩ : ∃ W6, W6 = w6.setCell ⟨q, 0, none⟩ (.slice p6 ((G1.ls k).length + 1) c6) := ⟨_, rfl⟩
  have hs6 : w6.heap.size = W6.heap.size := by rw [hW6]; simp
  rw [← hW6] at hn6
  obtain ⟨p7, c7, w7, hr7, hn7, l7, m7, f7⟩ := step7 (p := p) hn6.raw hl2
  obtain ⟨n7, hn7e⟩ : ∃ n7, n7 = (G1.listed k (.slice p6 ((G1.ls k).length + 1) c6) p).ps.length + 1 := ⟨_, rfl⟩
  rw [← hn7e] at hr7 hn7
  obtain ⟨W7, hW7⟩ : ∃ W7, W7 = w7.setCell ⟨d, 0, none⟩ (.slice p7 n7 c7) := ⟨_, rfl⟩
  rw [← hW7] at hn7
  obtain ⟨w8, hr8, hn8⟩ := step8 (p := p) (b := b1) (s := (G1.cl p).key) (hn7.raw.keep (W' := W7.drew) (fun _ _ => rfl)) hb1 hl3 hs
  refine ⟨p6, c6, _, w6, p7, c7, n7, w7, w8, _, { r6 := hr6, l6 := l6, m6 := m6, f6 := f6, r7 := ?_, l7 := ?_, m7 := m7, f7 := f7, m1 := ?_, m0 := ?_, r8 := ?_, next := ((hn6.trans hn7).drewN 1).trans hn8, kept := ⟨rfl, rfl, rfl, rfl, rfl, rfl, rfl, rfl, rfl, rfl, rfl, rfl, rfl, rfl, rfl, rfl, rfl, rfl, rfl⟩ }⟩
  · rw [← hW6, hs6]; exact hr7
  · rw [← hW6]; exact l7
  · rw [← hW7]
    show W7.cell? _ = _
    rw [cell_at hn7.raw.ob]
    show some (Value.map G1.mb) = _
    rw [hb1]
  · rw [← hW7]
    show W7.cell? _ = _
    rw [cell_at (hn7.raw.cb p hp)]
    rfl
  · rw [← hW7]; exact hr8
end Go.Proofs.YtfclknlpdcanpaaGreatDoor
/- aged: what holds of a view at rest, in plain words. -/
namespace Go.Proofs.YtfclknlpdcanpaaGreatDoor
open Go Go.Shelf Go.ChangeShapes Go.WideShapes Go.ChangeAt Go.RowKit Go.Maps
set_option linter.unusedVariables false
def sumL (l : List Nat) (f : Nat → Int) : Int := l.foldr (fun p x => f p + x) 0
theorem sumL_nil (f : Nat → Int) : sumL [] f = 0 := rfl
theorem sumL_cons (p : Nat) (l : List Nat) (f : Nat → Int) : sumL (p :: l) f = f p + sumL l f := rfl
theorem sumL_append (l m : List Nat) (f : Nat → Int) : sumL (l ++ m) f = sumL l f + sumL m f := by
  induction l with
  | nil => rw [List.nil_append, sumL_nil, Int.zero_add]
  | cons p l ih => rw [List.cons_append, sumL_cons, sumL_cons, ih]; omega
theorem sumL_congr {l : List Nat} {f g : Nat → Int} (h : ∀ p ∈ l, f p = g p) : sumL l f = sumL l g := by
  induction l with
  | nil => rfl
  | cons p l ih => rw [sumL_cons, sumL_cons, h p List.mem_cons_self, ih (fun q hq => h q (List.mem_cons_of_mem _ hq))]
theorem sumL_nonneg {l : List Nat} {f : Nat → Int} (h : ∀ p ∈ l, 0 ≤ f p) : 0 ≤ sumL l f := by
  induction l with
  | nil => exact Int.le_refl _
  | cons p l ih =>
    have h1 := h p List.mem_cons_self
    have h2 := ih (fun q hq => h q (List.mem_cons_of_mem _ hq))
    rw [sumL_cons]; omega
theorem sumL_le {l : List Nat} {f g : Nat → Int} (h : ∀ p ∈ l, f p ≤ g p) : sumL l f ≤ sumL l g := by
  induction l with
  | nil => exact Int.le_refl _
  | cons p l ih =>
    have h1 := h p List.mem_cons_self
    have h2 := ih (fun q hq => h q (List.mem_cons_of_mem _ hq))
    rw [sumL_cons, sumL_cons]; omega
theorem sumL_filter_le {l : List Nat} {f : Nat → Int} (P : Nat → Bool) (h : ∀ p ∈ l, 0 ≤ f p) : sumL (l.filter P) f ≤ sumL l f := by
  induction l with
  | nil => exact Int.le_refl _
  | cons p l ih =>
    have h1 := h p List.mem_cons_self
    have h2 := ih (fun q hq => h q (List.mem_cons_of_mem _ hq))
    rw [List.filter_cons, sumL_cons]
    split
    · rw [sumL_cons]; omega
    · omega
theorem sumL_one_le {l : List Nat} {f : Nat → Int} (h : ∀ p ∈ l, 0 ≤ f p) {p : Nat} (hp : p ∈ l) : f p ≤ sumL l f := by
  induction l with
  | nil => cases hp
  | cons q l ih =>
    have h1 := h q List.mem_cons_self
    have h3 := sumL_nonneg (fun q hq => h q (List.mem_cons_of_mem _ hq))
    rw [sumL_cons]
    rcases List.mem_cons.1 hp with rfl | hp
    · omega
    · have h2 := ih (fun q hq => h q (List.mem_cons_of_mem _ hq)) hp
      omega
theorem sumL_upd {l : List Nat} (hn : l.Nodup) {f : Nat → Int} {p : Nat} (hp : p ∈ l) (v : Int) : sumL l (fun x => if x = p then v else f x) = sumL l f - f p + v := by
  induction l with
  | nil => cases hp
  | cons q l ih =>
    rw [List.nodup_cons] at hn
    rw [sumL_cons, sumL_cons]
    by_cases e : q = p
    · subst e
      rw [if_pos rfl, sumL_congr (f := fun x => if x = q then v else f x) (g := f) (fun x hx => if_neg (fun e => hn.1 (by rw [← e]; exact hx)))]
      omega
    · rw [if_neg e, ih hn.2 ((List.mem_cons.1 hp).resolve_left (fun h => e h.symm))]
      omega
/-- what a share puts into an age -/
def con (s : Int × Int) (j : Nat) : Int := if (j : Int) = s.1 then s.2 else 0
theorem con_bounds {s : Int × Int} {a : Int} (h : 0 ≤ s.2 ∧ s.2 ≤ a) (j : Nat) : 0 ≤ con s j ∧ con s j ≤ a := by
  unfold con
  split <;> omega
/-- what was allotted to a key -/
def ptsOf (A : List Al) (s : List UInt8) : Pts := (A.filter fun a => a.inv.data.toList = s).map fun a => (a.day, a.amt)
theorem ptsOf_append (A B : List Al) (s : List UInt8) : ptsOf (A ++ B) s = ptsOf A s ++ ptsOf B s := by simp [ptsOf]
theorem ptsOf_one (a : Al) (s : List UInt8) : ptsOf [a] s = if a.inv.data.toList = s then [(a.day, a.amt)] else [] := by
  unfold ptsOf
  by_cases h : a.inv.data.toList = s <;> simp [h]
/-- an invoice that can be -/
structure OkC (c : Cl) : Prop where
  d1 : 1 ≤ c.day
  d2 : c.due ≤ 3652059
  d3 : c.day ≤ c.due
  a1 : 1 ≤ c.amt
  a2 : c.amt ≤ 9223372036854775807
  s1 : c.key.size ≤ maxLen
  s2 : c.acc.size ≤ maxLen
def amts (G : Gh) (p : Nat) : Int := (G.cl p).amt
/-- all but what is shown -/
structure Inv0 (G : Gh) : Prop where
  pb : G.ps = G.bs
  nd : G.ps.Nodup
  km : G.mb = none ↔ G.ma = none
  mp : G.mb = none → G.ps = []
  kf : ∀ s p, G.kf s = some p ↔ p ∈ G.ps ∧ (G.cl p).key.data.toList = s
  qa : ∀ k, G.qa k ≠ none ↔ ∃ p ∈ G.ps, G.key p = k
  ls : ∀ k, G.ls k = G.ps.filter fun p => decide (G.key p = k)
  pt : ∀ p ∈ G.ps, G.pt p = ptsOf G.al (G.cl p).key.data.toList
  lf : ∀ p ∈ G.ps, G.lf p = (G.cl p).amt - sumAll (G.pt p)
  sum : ∀ p ∈ G.ps, sumAll (G.pt p) ≤ (G.cl p).amt
  ok : ∀ p ∈ G.ps, OkC (G.cl p)
  al : ∀ a ∈ G.al, 1 ≤ a.amt ∧ a.day ≤ 3652059 ∧ ∃ p ∈ G.ps, (G.cl p).key.data.toList = a.inv.data.toList ∧ (G.cl p).day ≤ a.day
  inv : G.inv = sumL G.ps (amts G)
  invm : G.inv ≤ 9223372036854775807
  gone : 0 ≤ G.gone ∧ G.gone ≤ 3652058
  shb : ∀ p ∈ G.ps, 0 ≤ (G.sh p).1 ∧ (G.sh p).1 ≤ 4 ∧ 0 ≤ (G.sh p).2 ∧ (G.sh p).2 ≤ (G.cl p).amt
  nw : ∀ k j, G.nw k j = sumL (G.ls k) (fun p => con (G.sh p) j)
  hp : Hp (dy G.tn) G.tn.length
  ts : ∀ x ∈ G.tn, x.2 ∈ G.ps
  l1 : G.ps.length ≤ 1000
  l2 : G.al.length ≤ 1000
  l3 : G.tn.length ≤ 5 * G.ps.length + G.al.length
  l4 : G.nk ≤ G.ps.length
  l5 : G.na ≤ G.ps.length
/-- the view at rest -/
structure Inv (G : Gh) : Prop extends Inv0 G where
  sh : ∀ p ∈ G.ps, G.sh p = shr (G.cl p) (G.pt p) (1 + G.gone)
  tc : ∀ p ∈ G.ps, ∀ x ∈ trn (G.cl p) (G.pt p), 1 + G.gone < x → x ≤ 3652059 → (x, p) ∈ G.tn
theorem Inv0.pos {G : Gh} (h : Inv0 G) {p : Nat} (hp : p ∈ G.ps) : ∀ x ∈ G.pt p, 1 ≤ x.2 := fun x hx => by
  rw [h.pt p hp] at hx
  obtain ⟨a, ha, rfl⟩ := List.mem_map.1 hx
  exact (h.al a (List.mem_filter.1 ha).1).1
theorem Inv0.len {G : Gh} (h : Inv0 G) {p : Nat} (hp : p ∈ G.ps) : (G.pt p).length ≤ 1000 := by
  rw [h.pt p hp]
  unfold ptsOf
  rw [List.length_map]
  exact Nat.le_trans (List.length_filter_le _ _) h.l2
theorem Inv0.mem_ls {G : Gh} (h : Inv0 G) {p : Nat} (hp : p ∈ G.ps) : p ∈ G.ls (G.key p) := by rw [h.ls]; exact List.mem_filter.2 ⟨hp, by simp⟩
theorem Inv0.ls_mem {G : Gh} (h : Inv0 G) {k : List UInt8} {p : Nat} (hp : p ∈ G.ls k) : p ∈ G.ps ∧ G.key p = k := by
  rw [h.ls] at hp
  have := List.mem_filter.1 hp
  exact ⟨this.1, by simpa using this.2⟩
theorem Inv0.ls_nodup {G : Gh} (h : Inv0 G) (k : List UInt8) : (G.ls k).Nodup := by rw [h.ls]; exact h.nd.filter _
theorem Inv0.no {G : Gh} (h : Inv0 G) {k : List UInt8} (hk : G.qa k = none) : G.ls k = [] ∧ ∀ j, G.nw k j = 0 := by
  have e : G.ls k = [] := by
    rw [List.eq_nil_iff_forall_not_mem]
    intro p hp
    have := h.ls_mem hp
    exact (h.qa k).2 ⟨p, this.1, this.2⟩ hk
  exact ⟨e, fun j => by rw [h.nw, e]; rfl⟩
theorem Inv0.amt_nonneg {G : Gh} (h : Inv0 G) : ∀ p ∈ G.ps, 0 ≤ amts G p := fun p hp => by
  have := (h.ok p hp).a1
  unfold amts
  omega
/-- whatever within its bounds each claim shows, an age's sum is an amount -/
theorem Inv0.age {G : Gh} (h : Inv0 G) (k : List UInt8) (f : Nat → Int) (hf : ∀ p ∈ G.ps, 0 ≤ f p ∧ f p ≤ (G.cl p).amt) : 0 ≤ sumL (G.ls k) f ∧ sumL (G.ls k) f ≤ 9223372036854775807 := by
  have h1 : ∀ p ∈ G.ls k, p ∈ G.ps := fun p hp => (h.ls_mem hp).1
  refine ⟨sumL_nonneg fun p hp => (hf p (h1 p hp)).1, ?_⟩
  have h2 : sumL (G.ls k) f ≤ sumL (G.ls k) (amts G) := sumL_le fun p hp => (hf p (h1 p hp)).2
  have h3 : sumL (G.ls k) (amts G) ≤ sumL G.ps (amts G) := by rw [h.ls]; exact sumL_filter_le _ h.amt_nonneg
  have := h.inv
  have := h.invm
  omega
theorem shown_nw {G : Gh} (h : Inv0 G) {p : Nat} (hp : p ∈ G.ps) (s : Int × Int) (k : List UInt8) (j : Nat) : (G.shown p s).nw k j = sumL (G.ls k) (fun x => con (if x = p then s else G.sh x) j) := by
  have e : (fun x => con (if x = p then s else G.sh x) j) = fun x => if x = p then con s j else con (G.sh x) j := funext fun x => by split <;> rfl
  show (if k = G.key p then (G.nw k j - (if (j : Int) = (G.sh p).1 then (G.sh p).2 else 0)) + (if (j : Int) = s.1 then s.2 else 0) else G.nw k j) = _
  rw [e]
  by_cases hk : k = G.key p
  · rw [if_pos hk, hk, sumL_upd (h.ls_nodup _) (h.mem_ls hp) (con s j), ← h.nw]
    rfl
  · rw [if_neg hk, h.nw]
    refine sumL_congr fun x hx => ?_
    rw [if_neg (fun e => hk (by rw [← e]; exact (h.ls_mem hx).2.symm))]
theorem Inv0.showOK {G : Gh} (h : Inv0 G) {p : Nat} (hp : p ∈ G.ps) : ShowOK G p := by
  have hok := h.ok p hp
  have hsb := h.shb p hp
  have hd1 := hok.d1; have hd2 := hok.d2; have hd3 := hok.d3; have ha1 := hok.a1; have ha2 := hok.a2
  refine ⟨by have := h.len hp; omega, h.pos hp, h.sum p hp, ⟨by omega, by omega⟩, ⟨by omega, by omega⟩, h.gone, ⟨hsb.1, hsb.2.1⟩, hok.s2, ?_, fun j hj => ?_⟩
  · have hb := h.age (G.key p) (fun x => con (G.sh x) (G.sh p).1.toNat) (fun x hx => con_bounds ⟨(h.shb x hx).2.2.1, (h.shb x hx).2.2.2⟩ _)
    have h1 := sumL_one_le (l := G.ls (G.key p)) (f := fun x => con (G.sh x) (G.sh p).1.toNat) (fun x hx => (con_bounds ⟨(h.shb x (h.ls_mem hx).1).2.2.1, (h.shb x (h.ls_mem hx).1).2.2.2⟩ _).1) (h.mem_ls hp)
    have h2 : con (G.sh p) (G.sh p).1.toNat = (G.sh p).2 := by unfold con; rw [if_pos (by omega)]
    rw [h.nw]
    simp only [h2] at h1
    omega
  · rw [shown_nw h hp]
    have hs := shr_bounds (h.pos hp) (h.sum p hp) (by omega) (1 + G.gone)
    have hb := h.age (G.key p) (fun x => con (if x = p then shr (G.cl p) (G.pt p) (1 + G.gone) else G.sh x) j) (fun x hx => by
      show 0 ≤ con _ j ∧ con _ j ≤ _
      split
      · rename_i e; subst e; exact con_bounds ⟨hs.1, hs.2.1⟩ _
      · exact con_bounds ⟨(h.shb x hx).2.2.1, (h.shb x hx).2.2.2⟩ _)
    omega
theorem Inv0.shown {G : Gh} (h : Inv0 G) {p : Nat} (hp : p ∈ G.ps) {s : Int × Int} (hs : 0 ≤ s.1 ∧ s.1 ≤ 4 ∧ 0 ≤ s.2 ∧ s.2 ≤ (G.cl p).amt) : Inv0 (G.shown p s) :=
  { pb := h.pb, nd := h.nd, km := h.km, mp := h.mp, kf := h.kf, qa := h.qa, ls := h.ls, pt := h.pt, lf := h.lf, sum := h.sum, ok := h.ok, al := h.al, inv := h.inv, invm := h.invm, gone := h.gone
    shb := fun x hx => by
      show 0 ≤ (if x = p then s else G.sh x).1 ∧ (if x = p then s else G.sh x).1 ≤ 4 ∧ 0 ≤ (if x = p then s else G.sh x).2 ∧ (if x = p then s else G.sh x).2 ≤ (G.cl x).amt
      by_cases e : x = p
      · subst e; simp only [if_true]; exact hs
      · simp only [if_neg e]; exact h.shb x hx
    nw := fun k j => shown_nw h hp s k j
    hp := h.hp, ts := h.ts, l1 := h.l1, l2 := h.l2, l3 := h.l3, l4 := h.l4, l5 := h.l5 }
end Go.Proofs.YtfclknlpdcanpaaGreatDoor
