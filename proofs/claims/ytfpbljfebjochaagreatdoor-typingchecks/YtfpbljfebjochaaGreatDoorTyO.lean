/- typing: columns 24. -/
import Derived.Test.YtfpbljfebjochaaGreatDoorTyN
namespace Go.Proofs.YtfpbljfebjochaaGreatDoor
open Go Go.Shelf Go.ChangeShapes Go.WideShapes Go.ChangeAt Go.RowKit Go.Maps
set_option linter.unusedVariables false
set_option maxRecDepth 100000
set_option maxHeartbeats 4000000
def fldT' (f : Int) : Int := (fldS f).2
def colT (T : List Int) (x : Int × Int) : Int := if x.1 = 1 then 1 else tat T x.2
/-- the types of a query's columns -/
def colS (q : Qy) (T : List Int) : List Int := q.by'.map fldT' ++ q.sh.map (colT T)
theorem Rw.up {α : Type} {K : Kd α} {W X wr : World} {v : Value} {n : Nat} {L : List α} (h : Rw K X wr v n L) (hb : Below W.heap.size W X) : Rw K W wr v n L := ⟨row_le h.row hb.size, hb.trans (h.bel.mono hb.size), h.len⟩
theorem shw_in {x : Int × Int} {T : List Int} (h : shwS x T = true) (h1 : ¬ x.1 = 1) : 0 ≤ x.2 ∧ x.2 < (T.length : Int) := by
  by_cases hc : x.2 < 0 ∨ (T.length : Int) ≤ x.2
  · have e : tat T x.2 = 0 := by unfold tat; rw [if_pos hc]
    unfold shwS at h
    rw [if_neg h1, e] at h
    split at h
    · simp at h
    · split at h
      · simp at h
      · cases h
  · omega
theorem tat_in {T : List Int} {i : Int} (h0 : 0 ≤ i) (h1 : i < (T.length : Int)) : ∃ k : Nat, i = k ∧ ∃ hk : k < T.length, tat T i = T[k] := by
  refine ⟨i.toNat, by omega, by omega, ?_⟩
  unfold tat
  rw [if_neg (by omega)]
  simp [List.getD, show i.toNat < T.length by omega]
attribute [local go_sem ↓] ld45_is
theorem columns_any {W : World} (hF : Flds W) {q : Qy} {a : Qa} (hq : QIn W q a) {pT : Option Addr} {nT cT : Nat} {T : List Int} (hT : Lies kI W pT T) (hn : T.length = nT) (hs : ∀ x ∈ q.sh, shwS x T = true) : Calls Tryz.prog 64 #[qV q a, .slice pT nT cT] W fun e w' => ∃ p c, e = .returned (.slice p (q.by'.length + q.sh.length) c) ∧ Rw kI W w' (.slice p (q.by'.length + q.sh.length) c) (q.by'.length + q.sh.length) (colS q T) := by
  obtain ⟨o1, ho1⟩ : ∃ o : Obj, o = .cells #[.slice a.pN q.nodes.length a.cN, .int .i64 q.wh, .slice a.pB q.by'.length a.cB, .slice a.pS q.sh.length a.cS, .slice a.pO q.ords.length a.cO, .int .i64 q.lim] 27 := ⟨_, rfl⟩
  obtain ⟨W1, hW1⟩ : ∃ X, X = W.alloc o1 := ⟨_, rfl⟩
  have hsz : W.heap.size < W1.heap.size := by rw [hW1]; simp
  have hB1 : Below W.heap.size W W1 := by rw [hW1]; exact Below.a1 W o1
  have hx : ∀ i, W1.cell? ⟨W.heap.size, i, none⟩ = (#[.slice a.pN q.nodes.length a.cN, .int .i64 q.wh, .slice a.pB q.by'.length a.cB, .slice a.pS q.sh.length a.cS, .slice a.pO q.ords.length a.cO, .int .i64 q.lim] : Array Value)[i]? := fun i => by rw [hW1, ho1, World.cell?_alloc_mark]
  have x2 : W1.cell? ⟨W.heap.size, 2, none⟩ = some (.slice a.pB q.by'.length a.cB) := hx 2
  have X3 : Hid (∀ X, Below W1.heap.size W1 X → X.cell? ⟨W.heap.size, 3, none⟩ = some (.slice a.pS q.sh.length a.cS)) := fun X h => (h.cell (p := ⟨W.heap.size, 3, none⟩) hsz).trans (hx 3)
  have HF := hide (hF.below hB1); have HQ := hide (hq.below hB1); have HT := hide (hT.below hB1); have HN := hide hn; have HS := hide hs; have HB1 := hide hB1
  have hb1 := hq.nb
  have hb2 := hq.ns
  obtain ⟨nB, hnB⟩ : ∃ n, n = q.by'.length := ⟨_, rfl⟩
  obtain ⟨nS, hnS⟩ : ∃ n, n = q.sh.length := ⟨_, rfl⟩
  have HNB := hide hnB; have HNS := hide hnS
  unfold qV
  rw [← hnB, ← hnS] at ho1 ⊢
  simp only [← hnB, ← hnS] at x2 X3 hb1 hb2
  clear hx hF hq hT hn hs hB1 hnB hnS
  go_enter Tryz.func64, Tryz.ntmps64
  go_upto_region 2 with fail
  rw [← ho1, ← hW1]
  clear ho1 hW1 o1
  go_wp2_with fail
  have HR0 : Hid (Rw kI W1 W1 (.slice none 0 0) 0 []) := Rw.nil W1
  go_loopw [5, 15] (fun v5 v15 wr => ∃ (k : Nat) (p : Option Addr) (c : Nat), v15 = .int .i64 k ∧ k ≤ nB ∧ v5 = .slice p k c ∧ Hid (Rw kI W1 wr (.slice p k c) k ((q.by'.take k).map fldT'))) (fun _ v15 _ => nB - (intOf v15).toNat)
  case atStart => exact ⟨0, none, 0, rfl, by omega, rfl, unhide HR0⟩
  case round =>
    obtain ⟨k, p, c, rfl, hk, rfl, hrel⟩ := hrel
    by_cases hlt : k < nB
    · have hkl : k < q.by'.length := by rw [← unhide HNB]; exact hlt
      obtain ⟨b, off, e1, hbl, hr⟩ := (unhide HQ).b.2 k hkl
      obtain ⟨x, hxx⟩ : ∃ x, x = q.by'[k] := ⟨_, rfl⟩
      rw [← hxx] at hr
      have hc := ((unhide hrel).bel.cell (p := ⟨b, off + k * kI.s + 0, none⟩) hbl).trans (hr 0 (.int .i64 x) rfl)
      simp only [kI, Nat.mul_one, Nat.add_zero] at hc
      have htk : Hid ((q.by'.take (k + 1)).map fldT' = (q.by'.take k).map fldT' ++ [fldT' x]) := by
        show _ = _
        rw [List.take_succ_eq_append_getElem hkl, List.map_append, ← hxx]; rfl
      have hkn : (k : Int) < (nB : Int) := by omega
      have d := hide (field_any ((unhide HF).below (unhide hrel).bel) x)
      obtain ⟨nm, hnm⟩ : ∃ v, v = (fldS x).1 := ⟨_, rfl⟩
      obtain ⟨tx, htx⟩ : ∃ v, v = (fldS x).2 := ⟨_, rfl⟩
      rw [← hnm, ← htx] at d
      have HTX : Hid (fldT' x = tx) := htx.symm
      rw [e1]
      clear hr hxx hkl hbl hnm htx
      go_wp2_with fail
      refine (unhide d).mono ?_
      rintro e w1 ⟨rfl, m, hw⟩
      obtain ⟨p8, c8, w8, r8, o8⟩ := ((unhide hrel).drewN m).put kI_ok tx #[.int .i64 tx] rfl 23 (by omega) (nat_bound (c := 26400000000000) (by omega) (by decide))
      rw [← hw] at r8
      have r8 : (Builtin.append_ #[23, 23] 23 #[.slice p k c, .slice (some ⟨w1.heap.size, 0, none⟩) 1 1]).run Tryz.prog (w1.alloc (.cells #[.int .i64 tx] 3)) = .ok (.slice p8 (k + 1) c8) w8 := r8
      have HR8 := hide r8; have HO8 := hide o8
      clear hw r8 o8
      go_wp2_with (at_builtin; refine wpList_append_run rfl _ _ 23 rfl _ _ _ _ rfl rfl (unhide HR8) ?_)
      refine ⟨⟨k + 1, p8, c8, by go_num, by omega, rfl, ?_⟩, by simp [intOf]; omega⟩
      show Rw _ _ _ _ _ _
      rw [unhide htk, unhide HTX]
      exact unhide HO8
    · have hkn : k = nB := by omega
      subst hkn
      have x3 := unhide X3 _ (unhide hrel).bel
      have hrel2 : Hid (Rw kI W1 wr (.slice p k c) (k + 0) (q.by'.map fldT' ++ ((q.sh.take 0).map (colT T)))) := by
        have := unhide hrel
        rw [List.take_of_length_le (by rw [← unhide HNB]; exact Nat.le_refl _)] at this
        show Rw _ _ _ _ _ _
        rw [List.take_zero, List.map_nil, List.append_nil]
        exact this
      clear hrel
      go_wp2_with fail
      go_loopw [5, 32] (fun v5 v32 wr => ∃ (i : Nat) (p : Option Addr) (c : Nat), v32 = .int .i64 i ∧ i ≤ nS ∧ v5 = .slice p (k + i) c ∧ Hid (Rw kI W1 wr (.slice p (k + i) c) (k + i) (q.by'.map fldT' ++ ((q.sh.take i).map (colT T))))) (fun _ v32 _ => nS - (intOf v32).toNat)
      case atStart => exact ⟨0, p, c, rfl, by omega, rfl, unhide hrel2⟩
      case round =>
        obtain ⟨i, p, c, rfl, hi, rfl, hrel⟩ := hrel
        by_cases hlt : i < nS
        · have hkl : i < q.sh.length := by rw [← unhide HNS]; exact hlt
          obtain ⟨b, off, e1, hbl, hr⟩ := (unhide HQ).s.2 i hkl
          obtain ⟨x, hxx⟩ : ∃ x, x = q.sh[i] := ⟨_, rfl⟩
          rw [← hxx] at hr
          have hB := (unhide hrel).bel
          have l1 := run_ld45 (w := wr) (b := b) (o := off + i * 2) (x := x) (fun j u hu => (hB.cell (p := ⟨b, off + i * 2 + j, none⟩) hbl).trans (hr j u hu))
          have htk : Hid (q.by'.map fldT' ++ ((q.sh.take (i + 1)).map (colT T)) = (q.by'.map fldT' ++ ((q.sh.take i).map (colT T))) ++ [colT T x]) := by
            show _ = _
            rw [List.take_succ_eq_append_getElem hkl, List.map_append, ← hxx, List.append_assoc]; rfl
          have hkn : (i : Int) < (nS : Int) := by omega
          have hsx := hide (unhide HS x (by rw [hxx]; exact List.getElem_mem hkl))
          obtain ⟨x1, x2⟩ := x
          have HR1 := hide ((unhide hrel).below (Below.a1 wr (.cells #[.int .i64 x1, .int .i64 x2] 75)))
          simp only at l1
          rw [e1]
          clear hr hxx hkl
          by_cases hx1 : x1 = 1
          · subst hx1
            obtain ⟨p8, c8, w8, r8, o8⟩ := (unhide HR1).put kI_ok 1 #[.int .i64 1] rfl 23 (by omega) (nat_bound (c := 26400000000000) (by omega) (by decide))
            have r8 : (Builtin.append_ #[23, 23] 23 #[.slice p (k + i) c, .slice (some ⟨(wr.alloc (.cells #[.int .i64 1, .int .i64 x2] 75)).heap.size, 0, none⟩) 1 1]).run Tryz.prog ((wr.alloc (.cells #[.int .i64 1, .int .i64 x2] 75)).alloc (.cells #[.int .i64 1] 3)) = .ok (.slice p8 (k + i + 1) c8) w8 := r8
            rw [World.size_alloc] at r8
            have HR8 := hide r8; have HO8 := hide o8
            clear r8 o8
            go_wp2_with (at_builtin; refine wpList_append_run rfl _ _ 23 rfl _ _ _ _ rfl rfl (unhide HR8) ?_)
            refine ⟨⟨i + 1, p8, c8, by go_num, by omega, rfl, ?_⟩, by simp [intOf]; omega⟩
            show Rw _ _ _ _ _ _
            rw [unhide htk]
            exact unhide HO8
          · have hx1' := beqF hx1
            obtain ⟨h2, h3⟩ := shw_in (unhide hsx) hx1
            obtain ⟨y, rfl, hy, hty⟩ := tat_in (T := T) h2 h3
            obtain ⟨bT, oT, eT1, hTl, hTr⟩ := (unhide HT).2 y hy
            obtain ⟨tx, htx⟩ : ∃ v, v = T[y] := ⟨_, rfl⟩
            rw [← htx] at hTr hty
            have hct : ∀ o, (wr.alloc o).cell? ⟨bT, oT + y, none⟩ = some (.int .i64 tx) := fun o => by
              have h9 := (((hB.alloc hB.size o).cell (p := ⟨bT, oT + y * kI.s + 0, none⟩) hTl)).trans (hTr 0 (.int .i64 tx) rfl)
              simpa [kI] using h9
            have hyn : (y : Int) < (nT : Int) := by have := unhide HN; omega
            have HTX : Hid (colT T ((x1, (y : Int))) = tx) := by show _ = _; unfold colT; rw [if_neg hx1]; exact hty
            rw [eT1]
            obtain ⟨p8, c8, w8, r8, o8⟩ := (unhide HR1).put kI_ok tx #[.int .i64 tx] rfl 23 (by omega) (nat_bound (c := 26400000000000) (by omega) (by decide))
            have r8 : (Builtin.append_ #[23, 23] 23 #[.slice p (k + i) c, .slice (some ⟨(wr.alloc (.cells #[.int .i64 x1, .int .i64 y] 75)).heap.size, 0, none⟩) 1 1]).run Tryz.prog ((wr.alloc (.cells #[.int .i64 x1, .int .i64 y] 75)).alloc (.cells #[.int .i64 tx] 3)) = .ok (.slice p8 (k + i + 1) c8) w8 := r8
            rw [World.size_alloc] at r8
            have HR8 := hide r8; have HO8 := hide o8
            clear r8 o8 hTr hty htx hTl hy h2 h3
            go_wp2_with (at_builtin; refine wpList_append_run rfl _ _ 23 rfl _ _ _ _ rfl rfl (unhide HR8) ?_)
            refine ⟨⟨i + 1, p8, c8, by go_num, by omega, rfl, ?_⟩, by simp [intOf]; omega⟩
            show Rw _ _ _ _ _ _
            rw [unhide htk, unhide HTX]
            exact unhide HO8
        · have hin : i = nS := by omega
          subst hin
          go_wp2_with fail
          go_ret
          refine ⟨p, c, rfl, ?_⟩
          have h9 := (unhide hrel).up (unhide HB1)
          rw [List.take_of_length_le (by rw [← unhide HNS]; exact Nat.le_refl _)] at h9
          exact h9
end Go.Proofs.YtfpbljfebjochaaGreatDoor
