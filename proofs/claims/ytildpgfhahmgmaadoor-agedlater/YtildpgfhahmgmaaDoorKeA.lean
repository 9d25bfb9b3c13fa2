/- aged: keep (45). -/
import Derived.Test.YtildpgfhahmgmaaDoorVwD
import Derived.Test.YtildpgfhahmgmaaDoorFoA
import Derived.Deep.DeepCutAuto
namespace Go.Proofs.YtildpgfhahmgmaaDoor
open Go Go.Shelf Go.ChangeShapes Go.WideShapes Go.ChangeAt Go.RowKit Go.Maps
set_option linter.unusedVariables false
/-- what the view is where a claim is to be kept -/
structure KeepIn (W : World) (d p : Nat) (G : Gh) : Prop where
  raw : Raw W d G
  mem : p ∈ G.bs
  km : G.mb = none ↔ G.ma = none
  no : ∀ y, G.qa y = none → G.ls y = [] ∧ ∀ j, G.nw y j = 0
  ok : ShowOK G p
  st : Stp W
  z : ¬ G.own d 0
  hp : Hp (dy G.tn) G.tn.length
  l1 : G.ps.length ≤ 1000
  l2 : (G.ls (G.key p)).length ≤ 1000
  l3 : G.tn.length ≤ 100000
  l4 : G.nk ≤ 1000
  l5 : G.na ≤ 1000
  ksz : (G.cl p).key.size ≤ maxLen
/-- what it is behind that -/
structure KeepOut (W w' : World) (d p : Nat) (G G' : Gh) : Prop where
  next : Next W w' d G G'
  bs : G'.bs = G.bs
  cl : G'.cl = G.cl
  lf : G'.lf = G.lf
  pt : G'.pt = G.pt
  pv : G'.pv = G.pv
  al : G'.al = G.al
  inv : G'.inv = G.inv
  gone : G'.gone = G.gone
  ps : G'.ps = G.ps ++ [p]
  kf : G'.kf = fun y => if y = (G.cl p).key.data.toList then some p else G.kf y
  qa : ∀ y, G'.qa y ≠ none ↔ G.qa y ≠ none ∨ y = G.key p
  ls : G'.ls = fun y => if y = G.key p then G.ls y ++ [p] else G.ls y
  sh : G'.sh = fun y => if y = p then shr (G.cl p) (G.pt p) (1 + G.gone) else G.sh y
  nw : G'.nw = (G.shown p (shr (G.cl p) (G.pt p) (1 + G.gone))).nw
  tm : Marks G p (trn5 (G.cl p)) G'.tn
  mb : G'.mb ≠ none
  ma : G'.ma ≠ none
  nk : G'.nk ≤ G.nk + 1
  na : G'.na ≤ G.na + 1
def KeptOut (W w' : World) (d p : Nat) (G : Gh) : Prop := ∃ G', KeepOut W w' d p G G'
theorem ShowOK.of {G G' : Gh} {p : Nat} (h : ShowOK G p) (e1 : G'.cl = G.cl) (e2 : G'.pt = G.pt) (e3 : G'.sh = G.sh) (e4 : G'.gone = G.gone) (e5 : G'.nw = G.nw) : ShowOK G' p := by
  have ek : G'.key p = G.key p := by unfold Gh.key; rw [e1]
  refine ⟨by rw [e2]; exact h.len, by rw [e2]; exact h.pos, by rw [e1, e2]; exact h.sum, by rw [e1]; exact h.amt, by rw [e1]; exact h.due, by rw [e4]; exact h.gone, by rw [e3]; exact h.age, by rw [e1]; exact h.sz, by rw [ek, e3, e5]; exact h.less, ?_⟩
  have e6 : ∀ s j, (G'.shown p s).nw (G'.key p) j = (G.shown p s).nw (G.key p) j := fun s j => by
    unfold Gh.shown
    simp only [ek, e3, e5]
  intro j hj
  rw [e6, e1, e2, e4]
  exact h.more j hj
theorem eqp_none (w : World) (t : TypeId) (h : t = 89 ∨ t = 84) : (binOp .eql t (.pointer none) (.pointer none)).run Tryd.prog w = .ok (.bool true) w := by
  rcases h with rfl | rfl
  · kernel_rfl
  · kernel_rfl
theorem eqm_none (w : World) : (binOp .eql 78 (.map none) (.map none)).run Tryd.prog w = .ok (.bool true) w := by
  simp only [binOp]
  simp [run_equal_map_nil w 78 9 84 none und78]
theorem eqm_some (b : Nat) (w : World) : (binOp .eql 78 (.map (some b)) (.map none)).run Tryd.prog w = .ok (.bool false) w := by
  simp only [binOp]
  simp [run_equal_map_nil w 78 9 84 (some b) und78]
/-- what is kept between the steps -/
structure Mid (W W1 : World) (d p : Nat) (G G1 : Gh) : Prop where
  next : Next W W1 d G G1
  bs : G1.bs = G.bs
  cl : G1.cl = G.cl
  lf : G1.lf = G.lf
  pt : G1.pt = G.pt
  pv : G1.pv = G.pv
  al : G1.al = G.al
  inv : G1.inv = G.inv
  gone : G1.gone = G.gone
  tn : G1.tn = G.tn
  sh : G1.sh = G.sh
  nw : G1.nw = G.nw
theorem step6 {W : World} {d p q : Nat} {k : List UInt8} {G : Gh} (h : Raw W d G) (hq : G.qa k = some q) (hl : (G.ls k).length ≤ 1000) : ∃ p' c' w', (Builtin.append_ #[77, 77] 77 #[G.av k, .slice (some ⟨W.heap.size, 0, none⟩) 1 1]).run Tryd.prog (W.alloc (.cells #[ptr p] 84)) = .ok (.slice p' ((G.ls k).length + 1) c') w' ∧ Next W (w'.setCell ⟨q, 0, none⟩ (.slice p' ((G.ls k).length + 1) c')) d G (G.listed k (.slice p' ((G.ls k).length + 1) c') p) ∧ W.cell? ⟨q, 0, none⟩ = some (G.av k) ∧ w'.cell? ⟨q, 0, none⟩ = some (G.av k) ∧ w'.frozen? ⟨q, 0, none⟩ = false := by
  obtain ⟨p', c', w', h1, h2⟩ := app_one kP_ok (h.ar k q hq) (by omega) p #[ptr p] rfl 77 84
  have hb : w'.heap[q]? = W.heap[q]? := h2.fr.block q (heap_lt (h.ac k q hq)) (fun e => by have := row_ty (h.ar k q hq) e; rw [h.tyQ hq] at this; cases this)
  have hac := h.ac k q hq
  refine ⟨p', c', w', h1, h.growAc hq h2, by simp [World.cell?, hac, Gh.acV], by simp [World.cell?, hb, hac, Gh.acV], by simp [World.frozen?, hb, hac]⟩
theorem step7 {W : World} {d p : Nat} {G : Gh} (h : Raw W d G) (hl : G.ps.length ≤ 1000) : ∃ p' c' w', (Builtin.append_ #[77, 77] 77 #[G.vc, .slice (some ⟨W.heap.size, 0, none⟩) 1 1]).run Tryd.prog (W.alloc (.cells #[ptr p] 84)) = .ok (.slice p' (G.ps.length + 1) c') w' ∧ Next W (w'.setCell ⟨d, 0, none⟩ (.slice p' (G.ps.length + 1) c')) d G { G with vc := .slice p' (G.ps.length + 1) c', ps := G.ps ++ [p] } ∧ W.cell? ⟨d, 0, none⟩ = some G.vc ∧ w'.cell? ⟨d, 0, none⟩ = some G.vc ∧ w'.frozen? ⟨d, 0, none⟩ = false := by
  obtain ⟨p', c', w', h1, h2⟩ := app_one kP_ok h.rc (by omega) p #[ptr p] rfl 77 84
  have hb : w'.heap[d]? = W.heap[d]? := h2.fr.block d (heap_lt h.ob) (fun e => by have := row_ty h.rc e; rw [h.tyD] at this; cases this)
  have hac := h.ob
  refine ⟨p', c', w', h1, h.growCl h2, by simp [World.cell?, hac, Gh.agV], by simp [World.cell?, hb, hac, Gh.agV], by simp [World.frozen?, hb, hac]⟩
theorem fr_grown {W w' : World} {b : Nat} (hg : W.grownBy w' (some b)) : Fr W w' (fun x => x = b) := ⟨hg.os, hg.tape, hg.output, hg.size, fun k hk hx => hg.block k hk (fun e => hx (Option.some.inj e))⟩
theorem step8 {W : World} {d p b : Nat} {G : Gh} {s : ByteArray} (h : Raw W d G) (hb : G.mb = some b) (hn : G.nk ≤ 1000) (hs : s.size ≤ maxLen) : ∃ w', (Instr.mapUpdate 78 (.map (some b)) (.string s) (ptr p)).run Tryd.prog W = .ok () w' ∧ Next W w' d G (G.keyed s.data.toList p) := by
  obtain ⟨w', h1, h2, h3⟩ := (h.mm b hb).set und78 (by unfold maxLen; omega) hs p
  exact ⟨w', h1, h.keyed hb (fr_grown h3) h2⟩
theorem step5 {W : World} {d b : Nat} {G : Gh} {s : ByteArray} (h : Raw W d G) (hb : G.ma = some b) (hn : G.na ≤ 1000) (hs : s.size ≤ maxLen) (hk : G.qa s.data.toList = none) : ∃ w', (Instr.mapUpdate 79 (.map (some b)) (.string s) (ptr W.heap.size)).run Tryd.prog (W.alloc (.cells #[.slice none 0 0, .int .i64 0, .int .i64 0, .int .i64 0, .int .i64 0, .int .i64 0] 91)).drew = .ok () w' ∧ Next W w' d G (G.acct s.data.toList W.heap.size) := by
  obtain ⟨o, ho⟩ : ∃ o, o = Obj.cells #[.slice none 0 0, .int .i64 0, .int .i64 0, .int .i64 0, .int .i64 0, .int .i64 0] 91 (0, 0) := ⟨_, rfl⟩
  obtain ⟨es, c, he⟩ := (h.am b hb).block
  have hbl := heap_lt he
  have hk1 : PMAt (W.alloc o).drew b G.na G.qa := (h.am b hb).keep (Below.heap_alloc _ _ _ hbl)
  obtain ⟨w', h1, h2, h3⟩ := hk1.set und79 (by unfold maxLen; omega) hs W.heap.size
  rw [ho] at h1
  refine ⟨w', h1, h.acct hb hk ?_ ?_ h2 (Nat.le_refl _)⟩
  · exact (((Fr.refl W _).alloc o).drew).trans (fr_grown h3) (fun _ _ h => h)
  · rw [h3.block W.heap.size (by simp) (fun e => by have := Option.some.inj e; omega)]
    show (W.alloc o).heap[W.heap.size]? = _
    rw [heap_new, ho]
theorem run_wp_mapUpdate_nop : True := trivial
/-- the view with the claim put into its lists and under its key -/
structure Kept8 (G G8 : Gh) (p : Nat) (k : List UInt8) : Prop where
  bs : G8.bs = G.bs
  cl : G8.cl = G.cl
  lf : G8.lf = G.lf
  pt : G8.pt = G.pt
  pv : G8.pv = G.pv
  al : G8.al = G.al
  inv : G8.inv = G.inv
  gone : G8.gone = G.gone
  tn : G8.tn = G.tn
  sh : G8.sh = G.sh
  nw : G8.nw = G.nw
  ps : G8.ps = G.ps ++ [p]
  kf : G8.kf = fun y => if y = (G.cl p).key.data.toList then some p else G.kf y
  qa : G8.qa = G.qa
  ls : G8.ls = fun y => if y = k then G.ls k ++ [p] else G.ls y
  mb : G8.mb = G.mb
  ma : G8.ma = G.ma
  nk : G8.nk = G.nk + 1
  na : G8.na = G.na
structure Tail8 (W1 : World) (d p q b1 : Nat) (k : List UInt8) (G1 : Gh) (p6 : Option Addr) (c6 n6 : Nat) (w6 : World) (p7 : Option Addr) (c7 n7 : Nat) (w7 w8 : World) (G8 : Gh) : Prop where
  r6 : (Builtin.append_ #[77, 77] 77 #[G1.av k, .slice (some ⟨W1.heap.size, 0, none⟩) 1 1]).run Tryd.prog (W1.alloc (.cells #[.pointer (some ⟨p, 0, none⟩)] 84)) = .ok (.slice p6 n6 c6) w6
  l6 : W1.cell? ⟨q, 0, none⟩ = some (G1.av k)
  m6 : w6.cell? ⟨q, 0, none⟩ = some (G1.av k)
  f6 : w6.frozen? ⟨q, 0, none⟩ = false
  r7 : (Builtin.append_ #[77, 77] 77 #[G1.vc, .slice (some ⟨w6.heap.size, 0, none⟩) 1 1]).run Tryd.prog ((w6.setCell ⟨q, 0, none⟩ (.slice p6 n6 c6)).alloc (.cells #[.pointer (some ⟨p, 0, none⟩)] 84)) = .ok (.slice p7 n7 c7) w7
  l7 : (w6.setCell ⟨q, 0, none⟩ (.slice p6 n6 c6)).cell? ⟨d, 0, none⟩ = some G1.vc
  m7 : w7.cell? ⟨d, 0, none⟩ = some G1.vc
  f7 : w7.frozen? ⟨d, 0, none⟩ = false
  m1 : (w7.setCell ⟨d, 0, none⟩ (.slice p7 n7 c7)).drew.cell? ⟨d, 1, none⟩ = some (.map (some b1))
  m0 : (w7.setCell ⟨d, 0, none⟩ (.slice p7 n7 c7)).drew.cell? ⟨p, 0, none⟩ = some (.string (G1.cl p).key)
  r8 : (Instr.mapUpdate 78 (.map (some b1)) (.string (G1.cl p).key) (.pointer (some ⟨p, 0, none⟩))).run Tryd.prog (w7.setCell ⟨d, 0, none⟩ (.slice p7 n7 c7)).drew = .ok () w8
  next : Next W1 w8 d G1 G8
  kept : Kept8 G1 G8 p k
theorem tail8 {W1 : World} {d p q b1 : Nat} {k : List UInt8} {G1 : Gh} (h : Raw W1 d G1) (hq : G1.qa k = some q) (hb1 : G1.mb = some b1) (hp : p ∈ G1.bs) (hl : (G1.ls k).length ≤ 1000) (hl2 : G1.ps.length ≤ 1000) (hl3 : G1.nk ≤ 1000) (hs : (G1.cl p).key.size ≤ maxLen) : ∃ p6 c6 n6 w6 p7 c7 n7 w7 w8 G8, Tail8 W1 d p q b1 k G1 p6 c6 n6 w6 p7 c7 n7 w7 w8 G8 := by
  obtain ⟨p6, c6, w6, hr6, hn6, l6, m6, f6⟩ := step6 (p := p) h hq hl
  obtain ⟨W6, hW6⟩ : ∃ W6, W6 = w6.setCell ⟨q, 0, none⟩ (.slice p6 ((G1.ls k).length + 1) c6) := ⟨_, rfl⟩
  have hs6 : w6.heap.size = W6.heap.size := by rw [hW6]; simp
  rw [← hW6] at hn6
  obtain ⟨p7, c7, w7, hr7, hn7, l7, m7, f7⟩ := step7 (p := p) hn6.raw hl2
  obtain ⟨n7, hn7e⟩ : ∃ n7, n7 = (G1.listed k (.slice p6 ((G1.ls k).length + 1) c6) p).ps.length + 1 := ⟨_, rfl⟩
  rw [← hn7e] at hr7 hn7
  obtain ⟨W7, hW7⟩ : ∃ W7, W7 = w7.setCell ⟨d, 0, none⟩ (.slice p7 n7 c7) := ⟨_, rfl⟩
  rw [← hW7] at hn7
  obtain ⟨w8, hr8, hn8⟩ := step8 (p := p) (b := b1) (s := (G1.cl p).key) (hn7.raw.keep (W' := W7.drew) (fun _ _ => rfl)) hb1 hl3 hs
  refine ⟨p6, c6, _, w6, p7, c7, n7, w7, w8, _, { r6 := hr6, l6 := l6, m6 := m6, f6 := f6, r7 := ?_, l7 := ?_, m7 := m7, f7 := f7, m1 := ?_, m0 := ?_, r8 := ?_, next := ((hn6.trans hn7).drewN 1).trans hn8, kept := ⟨rfl, rfl, rfl, rfl, rfl, rfl, rfl, rfl, rfl, rfl, rfl, rfl, rfl, rfl, rfl, rfl, rfl, rfl, rfl⟩ }⟩
  · rw [← hW6, hs6]; exact hr7
  · rw [← hW6]; exact l7
  · rw [← hW7]
    show W7.cell? _ = _
    rw [cell_at hn7.raw.ob]
    show some (Value.map G1.mb) = _
    rw [hb1]
  · rw [← hW7]
    show W7.cell? _ = _
    rw [cell_at (hn7.raw.cb p hp)]
    rfl
  · rw [← hW7]; exact hr8
end Go.Proofs.YtildpgfhahmgmaaDoor
