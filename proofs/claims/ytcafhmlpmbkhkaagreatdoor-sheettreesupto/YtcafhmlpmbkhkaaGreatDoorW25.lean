import Derived.Test.YtcafhmlpmbkhkaaGreatDoorW24
import Derived.Test.YtcafhmlpmbkhkaaGreatDoorW15
/- The document's Trial: what a round leaves. -/
namespace Go.Proofs.YtcafhmlpmbkhkaaGreatDoor
open Go Go.Shelf Go.ChangeShapes Go.WideShapes Go.ChangeAt Go.RowKit Go.Maps
set_option linter.unusedVariables false
set_option linter.unusedSimpArgs false
/-- all but rows of amounts stands -/
structure K2 (W W' : World) : Prop where
  size : W.heap.size ≤ W'.heap.size
  kept : ∀ (k : Nat) (ys : Array Value) (t : TypeId) (f : Nat × Nat), W.heap[k]? = some (Obj.cells ys t f) → t ≠ 2 → W'.heap[k]? = W.heap[k]?
theorem K2.trans {W X Y : World} (h : K2 W X) (k : K2 X Y) : K2 W Y :=
  ⟨Nat.le_trans h.size k.size, fun q ys t f hq h2 => by
    have e := h.kept q ys t f hq h2
    exact (k.kept q ys t f (e.trans hq) h2).trans e⟩
theorem K2.of_below {W W' : World} (h : Below W.heap.size W W') : K2 W W' := ⟨h.size, fun k ys t f hk _ => h.block k (Array.getElem?_eq_some_iff.1 hk).1⟩
theorem RowIs.k2 {W W' : World} {s : Sl} {r : List Tx} (h : RowIs W s r) (g : K2 W W') : RowIs W' s r := by
  refine ⟨h.n, h.c, ?_, fun a ha => ?_⟩
  · cases hp : s.p with
    | none => have := h.lies; rw [hp] at this; rw [this.1 rfl]; exact Lies.nil _ _
    | some a =>
      refine ⟨(fun e => by cases e), fun k hk => ?_⟩
      have hl := h.lies
      rw [hp] at hl
      obtain ⟨b, off, e, hlt, hr⟩ := hl.2 k hk
      obtain ⟨ys, f, hb⟩ := h.blk a hp
      cases e
      exact ⟨b, off, rfl, Nat.lt_of_lt_of_le hlt g.size, fun j u hu => (World.cell?_of_block (a := ⟨b, off + k * kT.s + j, none⟩) (g.kept b ys 9 f hb (by decide))).trans (hr j u hu)⟩
  · obtain ⟨ys, f, hb⟩ := h.blk a ha
    exact ⟨ys, f, (g.kept _ ys 9 f hb (by decide)).trans hb⟩
theorem own_obj {W : World} {B e s n : Nat} {v : Value} {xs : List Value} (h : W.ownsRow B e s v n xs) {g : Nat} (hg : v.ownBlock = some g) : ∃ ys, W.heap[g]? = some (Obj.cells ys e (0, 0)) := by
  rcases h.2 with ⟨e1, h2⟩ | ⟨g', cap, cur, e1, hB, hh, h3⟩
  · rw [e1] at hg; cases hg
  · rw [e1] at hg
    have e2 : g' = g := Option.some.inj hg
    subst e2
    exact ⟨cur, hh⟩
theorem Rl.k2 {B : Nat} {W W' : World} {v : Value} {R : List (List Tx)} (h : Rl B W v R) (g : K2 W W') : Rl B W' v R := by
  obtain ⟨L, h⟩ := h
  exact ⟨L, row_keep h.own (fun q hq => by
    obtain ⟨ys, hy⟩ := own_obj h.own hq
    exact g.kept q ys 93 _ hy (by decide)), h.len, fun k s r hs hr => (h.row k s r hs hr).k2 g⟩
/-- a round's head -/
structure RtAt (w : World) (d : Nat) (A : List Cm) (n : Nat) (vd vc vr : Value) (wr : World) : Prop where
  len : A.length = n
  od : wr.ownsRow w.heap.size 2 1 vd n (kN.flat (debL A))
  oc : wr.ownsRow w.heap.size 2 1 vc n (kN.flat (creL A))
  ne : ∀ g, vd.ownBlock = some g → vc.ownBlock ≠ some g
  rl : Rl w.heap.size wr vr ([hdT] ++ A.map (rowT d))
  bel : Below w.heap.size w wr
theorem RtAt.below {w wr W : World} {d n : Nat} {A : List Cm} {vd vc vr : Value} (h : RtAt w d A n vd vc vr wr) (hb : Below wr.heap.size wr W) : RtAt w d A n vd vc vr W :=
  ⟨h.len, own_below h.od hb, own_below h.oc hb, h.ne, h.rl.below hb, h.bel.trans (hb.mono h.bel.size)⟩
/-- the two amounts appended -/
theorem rt_apps {w W : World} {d n : Nat} {A : List Cm} {vd vc vr : Value} (h : RtAt w d A n vd vc vr W) (x : Cm) (hn : n + 1 ≤ 1099511627776) :
    ∃ pd cd w2, (Builtin.append_ #[92, 92] 92 #[vd, .slice (some ⟨W.heap.size, 0, none⟩) 1 1]).run Tryz.prog (W.alloc (.cells #[.int .i64 x.deb] 2)) = .ok (.slice pd (n + 1) cd) w2 ∧ K2 W w2 ∧
      ∃ pc cc w3, (Builtin.append_ #[92, 92] 92 #[vc, .slice (some ⟨w2.heap.size, 0, none⟩) 1 1]).run Tryz.prog (w2.alloc (.cells #[.int .i64 x.cre] 2)) = .ok (.slice pc (n + 1) cc) w3 ∧ K2 W w3 ∧
        w3.ownsRow w.heap.size 2 1 (.slice pd (n + 1) cd) (n + 1) (kN.flat (debL (A ++ [x]))) ∧ w3.ownsRow w.heap.size 2 1 (.slice pc (n + 1) cc) (n + 1) (kN.flat (creL (A ++ [x]))) ∧
        (∀ g, (Value.slice pd (n + 1) cd).ownBlock = some g → (Value.slice pc (n + 1) cc).ownBlock ≠ some g) ∧ Below w.heap.size w w3 := by
  obtain ⟨pd, cd, w2, r1, o1, b1, k1, q1⟩ := amt_app h.od h.bel.size x.deb hn
  have s12 : W.heap.size ≤ w2.heap.size := by
    obtain ⟨O, hO⟩ : ∃ O, O = Obj.cells #[.int .i64 x.deb] 2 := ⟨_, rfl⟩
    exact Nat.le_trans (Nat.le_refl _) b1.size
  have oc2 : w2.ownsRow w.heap.size 2 1 vc n (kN.flat (creL A)) := row_keep h.oc (fun g hg => k1 g (h.oc.lt g hg).2 (fun e => h.ne g e hg))
  have ne2 : ∀ g, (Value.slice pd (n + 1) cd).ownBlock = some g → vc.ownBlock ≠ some g := fun g hg hc => by
    have hlt := (h.oc.lt g hc).2
    rcases q1 with e | e
    · rw [e] at hg; exact h.ne g hg hc
    · rw [e] at hg
      have := Option.some.inj hg
      omega
  obtain ⟨pc, cc, w3, r2, o2, b2, k2, q2⟩ := amt_app oc2 (Nat.le_trans h.bel.size s12) x.cre hn
  have od3 : w3.ownsRow w.heap.size 2 1 (.slice pd (n + 1) cd) (n + 1) (kN.flat (debL A ++ [x.deb])) := row_keep o1 (fun g hg => k2 g (o1.lt g hg).2 (ne2 g hg))
  have ne3 : ∀ g, (Value.slice pd (n + 1) cd).ownBlock = some g → (Value.slice pc (n + 1) cc).ownBlock ≠ some g := fun g hg hc => by
    have hlt := (o1.lt g hg).2
    rcases q2 with e | e
    · rw [e] at hc; exact ne2 g hg hc
    · rw [e] at hc
      have := Option.some.inj hc
      omega
  have kk2 : K2 W w2 := ⟨s12, fun q ys t f hq h2 => k1 q (Array.getElem?_eq_some_iff.1 hq).1 (not_own h.od hq h2)⟩
  have kk3 : K2 w2 w3 := ⟨b2.size, fun q ys t f hq h2 => k2 q (Array.getElem?_eq_some_iff.1 hq).1 (not_own oc2 hq h2)⟩
  have ed : debL (A ++ [x]) = debL A ++ [x.deb] := by simp [debL]
  have ec : creL (A ++ [x]) = creL A ++ [x.cre] := by simp [creL]
  rw [ed, ec]
  exact ⟨pd, cd, w2, r1, kk2, pc, cc, w3, r2, kk2.trans kk3, od3, o2, ne3, (h.bel.trans b1).trans b2⟩
/-- the row appended: the next round's head -/
theorem rt_row {w W w3 Y : World} {d n : Nat} {A : List Cm} {vd vc vr vd' vc' : Value} (h : RtAt w d A n vd vc vr W) (hk : K2 W w3) {x : Cm} (hd : w3.ownsRow w.heap.size 2 1 vd' (n + 1) (kN.flat (debL (A ++ [x])))) (hc : w3.ownsRow w.heap.size 2 1 vc' (n + 1) (kN.flat (creL (A ++ [x]))))
    (hne : ∀ g, vd'.ownBlock = some g → vc'.ownBlock ≠ some g) (hb : Below w.heap.size w w3) (hY : Below w3.heap.size w3 Y) (hg : Y.heap[w3.heap.size]? = some (.cells #[.string (txB x.acc.data.toList), .string (txB (unz x.deb d)), .string (txB (unz x.cre d))] 9)) (hn : n + 2 ≤ 1099511627776) :
    ∃ pr cr w4, (Builtin.append_ #[94, 94] 94 #[vr, .slice (some ⟨Y.heap.size, 0, none⟩) 1 1]).run Tryz.prog (Y.alloc (.cells #[.slice (some ⟨w3.heap.size, 0, none⟩) 3 3] 93)) = .ok (.slice pr (n + 2) cr) w4 ∧ RtAt w d (A ++ [x]) (n + 1) vd' vc' (.slice pr (n + 2) cr) w4 := by
  have hrl : Rl w.heap.size Y vr ([hdT] ++ A.map (rowT d)) := (h.rl.k2 hk).below hY
  have hbY : Below w.heap.size w Y := hb.trans (hY.mono hb.size)
  have hri : RowIs Y ⟨some ⟨w3.heap.size, 0, none⟩, 3, 3⟩ (rowT d x) := by
    refine ⟨rfl, (fun e => by cases e), ⟨(fun e => by cases e), fun k hk => ?_⟩, fun q hq => ?_⟩
    · refine ⟨w3.heap.size, 0, rfl, (Array.getElem?_eq_some_iff.1 hg).1, fun j u hu => ?_⟩
      have hk3 : k = 0 ∨ k = 1 ∨ k = 2 := by simp [rowT] at hk; omega
      have hj : j = 0 := by
        have := (List.getElem?_eq_some_iff.1 hu).1
        simp [kT] at this
        exact this
      subst hj
      rw [cell_at hg]
      rcases hk3 with rfl | rfl | rfl <;> simpa [kT, rowT] using hu
    · cases hq
      exact ⟨_, (0, 0), hg⟩
  have hlen : ([hdT] ++ A.map (rowT d)).length = n + 1 := by simp [h.len]
  obtain ⟨pr, cr, w4, r, rl4, b4, k4⟩ := hrl.app hbY.size hri (by rw [hlen]; exact hn)
  rw [hlen] at r rl4
  have hvr : ∀ g ys, Y.heap[g]? = some (Obj.cells ys 2 (0, 0)) → vr.ownBlock ≠ some g := fun g ys hgy => by
    obtain ⟨L, hL⟩ := hrl
    exact not_own hL.own hgy (by decide)
  have kd : ∀ {v : Value} {l : List Int}, w3.ownsRow w.heap.size 2 1 v (n + 1) (kN.flat l) → w4.ownsRow w.heap.size 2 1 v (n + 1) (kN.flat l) := fun {v l} ho => by
    have hoY := own_below ho hY
    refine row_keep hoY (fun g hg => ?_)
    obtain ⟨ys, hy⟩ := own_obj hoY hg
    exact k4 g (Array.getElem?_eq_some_iff.1 hy).1 (hvr g ys hy)
  refine ⟨pr, cr, w4, r, by simp [h.len], kd hd, kd hc, hne, ?_, hbY.trans b4⟩
  rw [List.map_append, ← List.append_assoc]
  exact rl4
end Go.Proofs.YtcafhmlpmbkhkaaGreatDoor
