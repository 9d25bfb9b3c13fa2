/- DailyOrder (5): what its loops keep. -/
import Derived.Test.YtenoaechonpjgaaDoorLtA
import Derived.Test.YtenoaechonpjgaaDoorFrA
import Derived.Test.YtenoaechonpjgaaDoorOpR
namespace Go.Proofs.YtenoaechonpjgaaDoor
open Go Go.Shelf Go.ChangeShapes Go.WideShapes Go.ChangeAt Go.RowKit Go.Maps Go.Sort
set_option linter.unusedVariables false
/-- a view behind an append to rows that are not its own -/
theorem Vw.app {W W' : World} {B d : Nat} {R : List Ro} (h : Vw W B d R) {b n : Nat} {v : Value} {xs : List Value} (hr : W.ownsRow b 24 9 v n xs) (hg : W.grownBy W' v.ownBlock) : Vw W' B d R := by
  have hty : ∀ g, v.ownBlock = some g → ∃ cur fz, W.heap[g]? = some (.cells cur 24 fz) := fun g hg => by
    rcases hr.2 with ⟨e, _⟩ | ⟨g', cap, cur, e, hB, hh, _⟩
    · rw [e] at hg; cases hg
    · rw [e] at hg
      have hgg : g' = g := Option.some.inj hg
      subst hgg
      exact ⟨_, _, hh⟩
  obtain ⟨n, mo, F, V, hD, hn⟩ := h.dv
  refine ⟨⟨n, mo, F, V, ⟨⟨(hg.block d (Nat.lt_of_lt_of_le hD.at'.2.1 h.le) (fun e => ?_)).trans hD.at'.1, hD.at'.2.1, ?_⟩, hD.ser, hD.fit⟩, hn⟩, Nat.le_trans h.le hg.size, h.ok, h.can⟩
  · obtain ⟨cur, fz, h1⟩ := hty d e.symm
    rw [hD.at'.1] at h1
    cases h1
  · rcases hD.at'.2.2 with h1 | ⟨b, D, e, hb', hA⟩
    · exact .inl h1
    · refine .inr ⟨b, D, e, hb', ⟨hA.map.kept hg (fun e => ?_), hA.val, hA.key, (fun k => row_keep (hA.row k) fun g hgv => hg.block g (row_block (hA.row k) hgv).2.1 (fun e => ?_)), hA.nil, hA.apart⟩⟩
      · obtain ⟨cur, fz, h1⟩ := hty b e.symm
        obtain ⟨es, clock, hb, _⟩ := hA.map
        rw [hb] at h1
        cases h1
      · obtain ⟨cur, fz, h1⟩ := hty g e.symm
        rcases (hA.row k).2 with ⟨e, _⟩ | ⟨g', cap, cur, e, hB, hh, _⟩
        · rw [e] at hgv; cases hgv
        · rw [e] at hgv
          have hgg : g' = g := Option.some.inj hgv
          subst hgg
          rw [hh] at h1
          injection h1 with h1
          injection h1 with _ h1 _
          cases h1
theorem grown_of {W w' : World} {B : Nat} {v : Value} (hb : Below B W w') (hk : ∀ k, k < W.heap.size → v.ownBlock ≠ some k → w'.heap[k]? = W.heap[k]?) : W.grownBy w' v.ownBlock :=
  ⟨hb.os, hb.tape, hb.output, hb.size, fun k hk' hne => hk k hk' (fun e => hne e.symm)⟩
/-- the outer loop: rows that are left, rows that were told -/
structure OI (w4 : World) (d : Nat) (R0 : List Ro) (v : Value) (Lf Td : List Ro) (W : World) : Prop where
  row : W.ownsRow w4.heap.size 24 9 v Lf.length (kR.flat Lf)
  pm : (Td ++ Lf).Perm R0
  vt : Vw W (d + 1) d Td
  bel : Below w4.heap.size w4 W
/-- the inner loop: a piece is drawn -/
structure II (w4 : World) (d : Nat) (R0 Td : List Ro) (v u : Value) (Lf Pc : List Ro) (W : World) : Prop where
  row : W.ownsRow w4.heap.size 24 9 v Lf.length (kR.flat Lf)
  pc : W.ownsRow w4.heap.size 24 9 u Pc.length (kR.flat Pc)
  pm : (Td ++ (Pc ++ Lf)).Perm R0
  vt : Vw W (d + 1) d Td
  bel : Below w4.heap.size w4 W
  ap : ∀ g, v.ownBlock = some g → u.ownBlock ≠ some g
theorem draw_perm {α : Type} (L : List α) (a : Nat) (ha : a < L.length) : (L[a] :: (L.take a ++ L.drop (a + 1))).Perm L := by
  have e : L = L.take a ++ L[a] :: L.drop (a + 1) := by rw [← List.drop_eq_getElem_cons ha, List.take_append_drop]
  exact (List.perm_middle (a := L[a]) (l₁ := L.take a) (l₂ := L.drop (a + 1))).symm.trans (by rw [← e])
theorem draw_pm {Td Pc Lf R0 : List Ro} (h : (Td ++ (Pc ++ Lf)).Perm R0) {a : Nat} (ha : a < Lf.length) : (Td ++ ((Pc ++ [Lf[a]]) ++ (Lf.take a ++ Lf.drop (a + 1)))).Perm R0 := by
  refine List.Perm.trans (List.Perm.append_left Td ?_) h
  rw [List.append_assoc]
  refine List.Perm.append_left Pc ?_
  exact draw_perm Lf a ha
set_option maxRecDepth 100000 in
/-- a round of the inner loop -/
theorem draw_round {w4 W : World} {d g c n k a : Nat} {R0 Td Lf Pc : List Ro} {u : Value} (hI : II w4 d R0 Td (.slice (some ⟨g, 0, none⟩) n c) u Lf Pc W) (hn : Lf.length = n) (hk : Pc.length = k) (ha : a < n) (hkn : k + n ≤ 1048576) :
    ∃ r p1 c1 w1 p3 c3 w3, W.rangeAt g (a * 9) r.vals ∧ (Builtin.append_ #[22, 22] 22 #[u, .slice (some ⟨W.heap.size, 0, none⟩) 1 1]).run Tryd.prog (W.alloc (oneR r)) = .ok (.slice p1 (k + 1) c1) w1 ∧ (Builtin.append_ #[22, 22] 22 #[.slice (some ⟨g, 0, none⟩) a c, .slice (if c = a + 1 then some ⟨g, 0, none⟩ else some ⟨g, (a + 1) * 9, none⟩) (n - (a + 1)) (c - (a + 1))]).run Tryd.prog w1.drew = .ok (.slice p3 (n - 1) c3) w3 ∧
      ∃ Lf' Pc', Lf'.length = n - 1 ∧ Pc'.length = k + 1 ∧ II w4 d R0 Td (.slice p3 (n - 1) c3) (.slice p1 (k + 1) c1) Lf' Pc' w3 := by
  have haL : a < Lf.length := by omega
  have hrow := hI.row
  rw [hn] at hrow
  have hpc := hI.pc
  rw [hk] at hpc
  have hg := row_block hrow (g := g) rfl
  have hwW := hI.bel.size
  obtain ⟨r, hr⟩ : ∃ r, r = Lf[a] := ⟨_, rfl⟩
  have hL1 : Lies kR (W.alloc (oneR r)) (some ⟨W.heap.size, 0, none⟩) [r] := one_lies W r 24 _ rfl
  obtain ⟨p1, c1, w1, hr1, ho1, hb1, hk1, hl1⟩ := run_app kR_ok (W := W.alloc (oneR r)) (B := w4.heap.size) (v := u) (L := Pc) (M := [r]) (n := k) 22 (hpc.alloc _) (by simp; omega) (some ⟨W.heap.size, 0, none⟩) 1 (fun h => by cases h) hL1 (by simp; omega)
  rw [List.length_singleton] at hr1 ho1 hl1
  have hV1 := (hI.vt.below (bal (Below.refl _ _) (oneR r))).app (hpc.alloc (oneR r)) (grown_of hb1 hk1)
  have hs1 : W.heap.size < w1.heap.size := by
    have h2 := hb1.size
    simp at h2
    omega
  have hl0 : w1.ownsRow w4.heap.size 24 9 (.slice (some ⟨g, 0, none⟩) n c) n (kR.flat Lf) := by
    refine row_keep (hrow.alloc (oneR r)) (fun q hq => hk1 q ?_ (hI.ap q hq))
    have := (row_block hrow hq).2.1
    simp
    omega
  have hld : w1.drew.ownsRow w4.heap.size 24 9 (.slice (some ⟨g, 0, none⟩) n c) n (kR.flat Lf) := hl0
  have hpre := own_prefix kR_ok hld (k := a) (by omega) hn
  have hall : Lies kR w1.drew (some ⟨g, 0, none⟩) Lf := own_lies kR_ok hn hld
  have hpart := hall.part (a + 1) (n - (a + 1))
  have l2 : ((Lf.drop (a + 1)).take (n - (a + 1))) = Lf.drop (a + 1) := List.take_of_length_le (by rw [List.length_drop]; omega)
  rw [l2, Nat.zero_add] at hpart
  have l3 : (Lf.drop (a + 1)).length = n - (a + 1) := by rw [List.length_drop]; omega
  have hnc : n ≤ c := by
    rcases hl0.2 with ⟨e, h2⟩ | ⟨g', cap, cur, e, h1, h2, h3, _⟩
    · cases e
    · cases e; exact h3
  have hp3 : Lies kR w1.drew (if c = a + 1 then some ⟨g, 0, none⟩ else some ⟨g, (a + 1) * 9, none⟩) (Lf.drop (a + 1)) := by
    by_cases hc : c = a + 1
    · rw [if_pos hc]
      have : Lf.drop (a + 1) = [] := List.drop_eq_nil_of_le (by omega)
      rw [this]
      exact Lies.nil _ _
    · rw [if_neg hc]
      exact hpart
  have hq : (if c = a + 1 then some (⟨g, 0, none⟩ : Addr) else some ⟨g, (a + 1) * 9, none⟩) = none → c - (a + 1) = 0 := fun h => by
    by_cases hc : c = a + 1
    · omega
    · rw [if_neg hc] at h
      cases h
  obtain ⟨p3, c3, w3, hr3, ho3, hb3, hk3, hl3⟩ := run_app kR_ok (W := w1.drew) (B := w4.heap.size) (L := Lf.take a) (M := Lf.drop (a + 1)) (n := a) 22 hpre (by show _ ≤ w1.heap.size; omega) (if c = a + 1 then some ⟨g, 0, none⟩ else some ⟨g, (a + 1) * 9, none⟩) (c - (a + 1)) hq hp3 (by omega)
  rw [l3] at hr3 ho3 hl3
  have e1 : a + (n - (a + 1)) = n - 1 := by omega
  rw [e1] at hr3 ho3 hl3
  have hob : (Value.slice (some ⟨g, 0, none⟩) a c).ownBlock = some g := rfl
  rw [hob] at hk3 hl3
  have hgr3 : w1.drew.grownBy w3 (Value.slice (some ⟨g, 0, none⟩) n c).ownBlock := grown_of (v := .slice (some ⟨g, 0, none⟩) n c) hb3 hk3
  have hV3 : Vw w3 (d + 1) d Td := (hV1.below (W' := w1.drew) ((Below.refl _ _).drew)).app hld hgr3
  have hgp : (Value.slice p1 (k + 1) c1).ownBlock ≠ some g := fun e => by
    rcases hl1 with h | h
    · rw [h] at e
      exact hI.ap g rfl e
    · rw [h] at e
      have := Option.some.inj e
      simp at this
      have := hg.2.1
      omega
  have hp1 : w3.ownsRow w4.heap.size 24 9 (.slice p1 (k + 1) c1) (k + 1) (kR.flat (Pc ++ [r])) := row_keep ho1 (fun q hq => hk3 q (row_block ho1 hq).2.1 (fun e => hgp (by rw [hq, ← Option.some.inj e])))
  have e4 : (Lf.take a ++ Lf.drop (a + 1)).length = n - 1 := by rw [List.length_append, List.length_take, List.length_drop]; omega
  have e5 : (Pc ++ [r]).length = k + 1 := by rw [List.length_append, List.length_singleton, hk]
  refine ⟨r, p1, c1, w1, p3, c3, w3, ?_, hr1, hr3, _, _, e4, e5, ⟨?_, ?_, ?_, hV3, ?_, ?_⟩⟩
  · obtain ⟨b, off, e, _, h7⟩ := (own_lies kR_ok hn hrow).2 a haL
    injection e with e
    injection e with e e'
    subst e
    rw [← e', ← hr] at h7
    simpa [kR] using h7
  · rw [e4]
    exact ho3
  · rw [e5]
    exact hp1
  · rw [hr]
    exact draw_pm hI.pm haL
  · have h1 : Below w4.heap.size w4 (W.alloc (oneR r)) := hI.bel.alloc hwW (oneR r)
    exact ((h1.trans hb1).drew).trans hb3
  · intro q h1 h2
    rcases hl3 with h | h
    · rw [h] at h1
      have := Option.some.inj h1
      subst this
      exact hgp h2
    · rw [h] at h1
      have h3 := Option.some.inj h1
      have h4 := (row_block ho1 h2).2.1
      have h5 : w1.drew.heap.size = w1.heap.size := rfl
      omega
end Go.Proofs.YtenoaechonpjgaaDoor
