import Derived.Test.YtcafhmlpmbkhkaaGreatDoorW25
/- The document's Trial (11). -/
namespace Go.Proofs.YtcafhmlpmbkhkaaGreatDoor
open Go Go.Shelf Go.ChangeShapes Go.WideShapes Go.ChangeAt Go.RowKit Go.Maps
set_option linter.unusedVariables false
set_option linter.unusedSimpArgs false
attribute [local go_sem ↓] ldM_is
theorem heap_put1 {w : World} {b : Nat} {x0 x1 x2 v : Value} {t : TypeId} (h : w.heap[b]? = some (.cells #[x0, x1, x2] t (0, 0))) : (w.setCell ⟨b, 1, none⟩ v).heap[b]? = some (.cells #[x0, v, x2] t (0, 0)) := by
  simp [World.setCell, Array.getElem?_modify, h]
theorem heap_put2 {w : World} {b : Nat} {x0 x1 x2 v : Value} {t : TypeId} (h : w.heap[b]? = some (.cells #[x0, x1, x2] t (0, 0))) : (w.setCell ⟨b, 2, none⟩ v).heap[b]? = some (.cells #[x0, x1, v] t (0, 0)) := by
  simp [World.setCell, Array.getElem?_modify, h]
theorem col_cells {W : World} {b : Nat} {x : Cm} (h : W.heap[b]? = some (obM x)) : W.cell? ⟨b, 0, none⟩ = some (.string x.acc) ∧ W.cell? ⟨b, 1, none⟩ = some (.int .i64 x.deb) ∧ W.cell? ⟨b, 2, none⟩ = some (.int .i64 x.cre) := by
  unfold obM at h
  refine ⟨?_, ?_, ?_⟩ <;> (rw [cell_at h]; rfl)
theorem lit3r (w : World) (a b c : Tx) : RowIs (w.alloc (.cells #[.string (txB a), .string (txB b), .string (txB c)] 9)) ⟨some ⟨w.heap.size, 0, none⟩, 3, 3⟩ [a, b, c] := by
  refine ⟨rfl, (fun e => by cases e), ⟨(fun e => by cases e), fun k hk => ?_⟩, fun q hq => ?_⟩
  · refine ⟨w.heap.size, 0, rfl, by simp, fun j u hu => ?_⟩
    have hk3 : k = 0 ∨ k = 1 ∨ k = 2 := by simp at hk; omega
    have hj : j = 0 := by
      have := (List.getElem?_eq_some_iff.1 hu).1
      simp [kT] at this
      exact this
    subst hj
    rw [cell_at (heap_new w _)]
    rcases hk3 with rfl | rfl | rfl <;> simpa [kT] using hu
  · cases hq
    exact ⟨_, (0, 0), heap_new w _⟩
/-- the grid's sides, said in either way -/
theorem sides_same : rgB [false, true, true] = rgt [0, 1, 1] := by
  funext c
  unfold rgB rgt
  match c with
  | 0 => rfl
  | 1 => rfl
  | 2 => rfl
  | n + 3 => simp [List.getD]
set_option maxRecDepth 100000 in
set_option maxHeartbeats 16000000 in
theorem rtrial_any {w : World} {p : Option Addr} {n c : Nat} {X : List Cm} (hX : X.length = n) (hL : Lies kM w p X) (hok : ∀ x ∈ X, CmOk x) (hn : n ≤ 1048576) (dg : Int) (hdg : -9223372036854775808 ≤ dg ∧ dg ≤ 9223372036854775807) :
    Calls Tryz.prog 11 #[.slice p n c, .int .i64 dg] w (TriOut w (ansT dg X)) := by
  by_cases hbad : dg < 0 ∨ 6 < dg
  · have HE : Hid (ansT dg X = ([], 1)) := by
      have e : errT dg X = 1 := if_pos hbad
      show _ = _
      unfold ansT
      rw [e, if_neg (by decide)]
    have D := hide (rdig_no dg w hbad)
    clear hX hL hok hbad
    go_enter Tryz.func11, Tryz.ntmps11
    go_wp2_with (go_at_call 52; refine (unhide D).mono ?_; rintro e w1 ⟨rfl, hw1⟩; rw [hw1]; clear hw1 w1)
    go_ret2
    exact ⟨by rw [unhide HE]; rfl, Below.refl _ _⟩
  · have hd0 : 0 ≤ dg := by omega
    have hd6 : dg ≤ 6 := by omega
    obtain ⟨d, hd⟩ : ∃ d : Nat, dg = (d : Int) := ⟨dg.toNat, by omega⟩
    subst hd
    have hd' : d ≤ 6 := by omega
    have D0 := hide (rdig_yes (d : Int) w hd0 hd6)
    have HBAD := hide hbad
    obtain ⟨w1, hw1⟩ : ∃ W, W = w.alloc (.cells #[.string (txB [65, 99, 99, 111, 117, 110, 116]), .string (txB [68, 101, 98, 105, 116]), .string (txB [67, 114, 101, 100, 105, 116])] 9) := ⟨_, rfl⟩
    obtain ⟨w2, hw2⟩ : ∃ W, W = w1.alloc (.cells #[.slice (some ⟨w.heap.size, 0, none⟩) 3 3] 93) := ⟨_, rfl⟩
    have b01 : Below w.heap.size w w1 := by rw [hw1]; exact bal (Below.refl _ _) _
    have b12 : Below w1.heap.size w1 w2 := by rw [hw2]; exact bal (Below.refl _ _) _
    have hr0 : RtAt w d [] 0 (.slice none 0 0) (.slice none 0 0) (.slice (some ⟨w1.heap.size, 0, none⟩) 1 1) w2 := by
      refine ⟨rfl, World.ownsRow_nil _ _ _ _, World.ownsRow_nil _ _ _ _, (fun g hg => by cases hg), ⟨[(⟨some ⟨w.heap.size, 0, none⟩, 3, 3⟩ : Sl)], ?_, rfl, fun k s r hs hr => ?_⟩, b01.trans (b12.mono b01.size)⟩
      · rw [hw2]
        exact World.ownsRow_lit (base := w.heap.size) (e := 93) (size := 1) w1 #[.slice (some ⟨w.heap.size, 0, none⟩) 3 3] 1 b01.size (by decide) rfl
      · have hk : k = 0 := by
          have := (List.getElem?_eq_some_iff.1 hs).1
          simp at this
          exact this
        subst hk
        cases hs
        cases hr
        have : RowIs w1 ⟨some ⟨w.heap.size, 0, none⟩, 3, 3⟩ hdT := by
          rw [hw1]
          exact lit3r w _ _ _
        exact this.gd (Gd.of_below (B := 0) b12 (Nat.zero_le _))
    have hw1' : w.alloc (.cells #[.string ⟨#[65, 99, 99, 111, 117, 110, 116]⟩, .string ⟨#[68, 101, 98, 105, 116]⟩, .string ⟨#[67, 114, 101, 100, 105, 116]⟩] 9) = w1 := hw1.symm
    have hw2' := hw2.symm
    have HR0 := hide hr0; have HX := hide hX; have HL := hide hL; have HOK := hide hok
    clear hr0 hw1 hw2 b01 b12 hX hL hok hbad
    go_enter Tryz.func11, Tryz.ntmps11
    go_wp2_with (go_at_call 52; refine (unhide D0).mono ?_; rintro e wz ⟨rfl, hwz⟩; rw [hwz]; clear hwz wz)
    go_loopw [6, 7, 8, 9] (fun dv cv rv iv wr => ∃ (k : Nat) (K : Int), k ≤ n ∧ iv = .int .i64 K ∧ K = (k : Int) ∧ (∃ p1 c1, dv = .slice p1 k c1) ∧ (∃ p1 c1, cv = .slice p1 k c1) ∧ (∃ p1 c1, rv = .slice p1 (k + 1) c1) ∧ Hid (RtAt w d (X.take k) k dv cv rv wr) ∧ Hid (∀ x ∈ X.take k, faultM x = 0)) (fun _ _ _ iv _ => ((n : Int) - intOf iv).toNat)
    case atStart => exact ⟨0, 0, by omega, rfl, rfl, ⟨_, _, rfl⟩, ⟨_, _, rfl⟩, ⟨_, _, rfl⟩, unhide HR0, fun x hx => by simp at hx⟩
    case round =>
      clear hw1' hw2' D0
      obtain ⟨wo, rfl⟩ : ∃ x, x = wr := ⟨wr, rfl⟩
      obtain ⟨k, K, hk, rfl, hK, ⟨pd, cd, rfl⟩, ⟨pc, cc, rfl⟩, ⟨pr, cr, rfl⟩, HA, HPRE⟩ := hrel
      by_cases hlt : k < n
      · have hI : K < (n : Int) := by omega
        have hK0 : 0 ≤ K := by omega
        have hKt : K.toNat = k := by omega
        have hkX : k < X.length := by have := unhide HX; omega
        obtain ⟨b, o, ep, hb, hld⟩ := ((unhide HL).below (unhide HA).bel).ldM hkX
        obtain ⟨x, hx⟩ : ∃ x, x = X[k] := ⟨_, rfl⟩
        rw [← hx] at hld
        have hxm : x ∈ X := by rw [hx]; exact List.getElem_mem hkX
        have hxok := unhide HOK x hxm
        have HTK : Hid (X.take (k + 1) = X.take k ++ [x]) := by show _ = _; rw [List.take_succ_eq_append_getElem hkX, ← hx]
        have HDR : Hid (X = X.take k ++ x :: X.drop (k + 1)) := by have := (List.take_append_drop k X).symm; rw [List.drop_eq_getElem_cons hkX, ← hx] at this; exact this
        subst ep
        obtain ⟨W1, hW1⟩ : ∃ W, W = wo.alloc (obM x) := ⟨_, rfl⟩
        obtain ⟨cb, hcb⟩ : ∃ k, k = wo.heap.size := ⟨_, rfl⟩
        have b1 : Below wo.heap.size wo W1 := by rw [hW1]; exact bal (Below.refl _ _) _
        have hh1 : W1.heap[cb]? = some (obM x) := by rw [hW1, hcb]; exact heap_new _ _
        have hA1 := (unhide HA).below b1
        have HBW : Hid (Below w.heap.size w W1) := hA1.bel
        have DN := hide (rname_any x.acc (by have := hxok.acc; omega) W1)
        obtain ⟨nb, hnb⟩ : ∃ q, q = nameL x.acc.data.toList := ⟨_, rfl⟩
        rw [← hnb] at DN
        have HNB := hide hnb
        obtain ⟨e0, e1, e2⟩ := col_cells hh1
        have HK := hide hK; have HXO := hide hxok; have HH1 := hide hh1; have HA1 := hide hA1
        have hW1' : wo.alloc (.cells #[.string x.acc, .int .i64 x.deb, .int .i64 x.cre] 31) = W1 := by rw [hW1]; rfl
        unfold cvM at hld
        rw [hcb] at e0 e1 e2
        have HCB := hide hcb
        clear hW1 b1 hkX hlt hK hnb hxm hx hA1 hh1 hxok hcb HA
        cases nb with
        | false =>
          have HE : Hid (ansT (d : Int) X = ([], 60)) := by
            have e : errT (d : Int) X = 60 := by
              unfold errT
              have hf : fstM faultM X = 60 := by
                rw [unhide HDR, fstM_pre faultM _ _ (unhide HPRE), fstM]
                have : faultM x = 60 := by unfold faultM; rw [← unhide HNB]; rfl
                rw [this, if_neg (by decide)]
              rw [if_neg (unhide HBAD), hf, if_pos (by decide)]
            show _ = _
            unfold ansT
            rw [e, if_neg (by decide)]
          go_wp2_with (go_at_call 53; refine (unhide DN).mono ?_; rintro e wz ⟨rfl, hwz⟩; rw [hwz]; clear hwz wz)
          go_ret2
          exact ⟨by rw [unhide HE]; rfl, unhide HBW⟩
        | true =>
          by_cases hneg : x.deb < 0 ∨ x.cre < 0
          · have HE : Hid (ansT (d : Int) X = ([], 10)) := by
              have e : errT (d : Int) X = 10 := by
                unfold errT
                have hf : fstM faultM X = 10 := by
                  rw [unhide HDR, fstM_pre faultM _ _ (unhide HPRE), fstM]
                  have : faultM x = 10 := by unfold faultM; rw [← unhide HNB, if_pos rfl, if_pos hneg]
                  rw [this, if_neg (by decide)]
                rw [if_neg (unhide HBAD), hf, if_pos (by decide)]
              show _ = _
              unfold ansT
              rw [e, if_neg (by decide)]
            by_cases hdn : x.deb < 0
            · clear hneg
              go_wp2_with (go_at_call 53; refine (unhide DN).mono ?_; rintro e wz ⟨rfl, hwz⟩; rw [hwz]; clear hwz wz)
              go_ret2
              exact ⟨by rw [unhide HE]; rfl, unhide HBW⟩
            · have hcn : x.cre < 0 := by rcases hneg with h | h; exact absurd h hdn; exact h
              clear hneg
              go_wp2_with (go_at_call 53; refine (unhide DN).mono ?_; rintro e wz ⟨rfl, hwz⟩; rw [hwz]; clear hwz wz)
              go_ret2
              exact ⟨by rw [unhide HE]; rfl, unhide HBW⟩
          · have hdn : ¬ x.deb < 0 := fun h => hneg (.inl h)
            have hcn : ¬ x.cre < 0 := fun h => hneg (.inr h)
            have HFX : Hid (faultM x = 0) := by show _ = _; unfold faultM; rw [← unhide HNB, if_pos rfl, if_neg hneg]
            have hda : isA x.deb := ⟨by omega, (unhide HXO).deb.2⟩
            have hca : isA x.cre := ⟨by omega, (unhide HXO).cre.2⟩
            have HDA := hide hda; have HCA := hide hca
            clear hneg hda hca
            obtain ⟨pd2, cd2, w2, r1, k12, pc2, cc2, w3, r2, k13, od3, oc3, ne3, bl3⟩ := rt_apps (unhide HA1) x (by omega)
            have hh2 := (k12.kept _ _ _ _ (unhide HH1) (by decide)).trans (unhide HH1)
            have hh3 := (k13.kept _ _ _ _ (unhide HH1) (by decide)).trans (unhide HH1)
            obtain ⟨f0, f1, f2⟩ := col_cells hh2
            obtain ⟨g0, g1, g2⟩ := col_cells hh3
            rw [unhide HCB] at f0 f1 f2 g0 g1 g2
            obtain ⟨w4, hw4⟩ : ∃ W, W = w3.alloc (.cells #[.string x.acc, .string ⟨#[]⟩, .string ⟨#[]⟩] 9) := ⟨_, rfl⟩
            have b34 : Below w3.heap.size w3 w4 := by rw [hw4]; exact bal (Below.refl _ _) _
            have hg4 : w4.heap[w3.heap.size]? = some (.cells #[.string x.acc, .string ⟨#[]⟩, .string ⟨#[]⟩] 9) := by rw [hw4]; exact heap_new _ _
            have HC3 : Hid (∀ Y, Below w3.heap.size w3 Y → Y.cell? ⟨wo.heap.size, 0, none⟩ = some (.string x.acc) ∧ Y.cell? ⟨wo.heap.size, 1, none⟩ = some (.int .i64 x.deb) ∧ Y.cell? ⟨wo.heap.size, 2, none⟩ = some (.int .i64 x.cre)) := fun Y hb => by
              have h1 := (hb.block _ (Array.getElem?_eq_some_iff.1 hh3).1).trans hh3
              have h2 := col_cells h1
              rwa [unhide HCB] at h2
            obtain ⟨i0, i1, i2⟩ := unhide HC3 w4 b34
            have HROW : Hid (∀ Y, Below w3.heap.size w3 Y → Y.heap[w3.heap.size]? = some (.cells #[.string (txB x.acc.data.toList), .string (txB (unz x.deb d)), .string (txB (unz x.cre d))] 9) →
                ∃ pr' cr' w', (Builtin.append_ #[94, 94] 94 #[.slice pr (k + 1) cr, .slice (some ⟨Y.heap.size, 0, none⟩) 1 1]).run Tryz.prog (Y.alloc (.cells #[.slice (some ⟨w3.heap.size, 0, none⟩) 3 3] 93)) = .ok (.slice pr' (k + 2) cr') w' ∧ RtAt w d (X.take (k + 1)) (k + 1) (.slice pd2 (k + 1) cd2) (.slice pc2 (k + 1) cc2) (.slice pr' (k + 2) cr') w') := fun Y hY hg => by
              rw [unhide HTK]
              exact rt_row (unhide HA1) k13 od3 oc3 ne3 bl3 hY hg (by omega)
            have HPRE2 : Hid (∀ y ∈ X.take (k + 1), faultM y = 0) := fun y hy => by
              rw [unhide HTK, List.mem_append, List.mem_singleton] at hy
              rcases hy with hy | rfl
              · exact unhide HPRE y hy
              · exact unhide HFX
            have HR1 := hide r1; have HR2 := hide r2; have HG4 := hide hg4; have HB34 := hide b34
            have HLT3 : Hid (w3.heap.size < w4.heap.size) := by rw [hw4]; show _ < _; simp
            have hw4' := hw4.symm
            clear r1 r2 k12 k13 od3 oc3 ne3 bl3 hh2 hh3 hw4 hg4 b34 HA1
            by_cases hdp : x.deb = 0
            · have hdq : ¬ x.deb > 0 := by omega
              have HDP := hide hdp
              clear hdp
              by_cases hcp : x.cre = 0
              · have hcq : ¬ x.cre > 0 := by omega
                have HCP := hide hcp
                clear hcp
                obtain ⟨pr', cr', w9, r9, HN9⟩ := unhide HROW w4 (unhide HB34) (by
                  have e1 : unz x.deb d = [] := if_pos (unhide HDP)
                  have e2 : unz x.cre d = [] := if_pos (unhide HCP)
                  rw [e1, e2]
                  exact unhide HG4)
                have HR9 := hide r9; have HNN := hide HN9
                clear r9 HN9 HROW
                go_wp2_with (first | (go_at_call 53; refine (unhide DN).mono ?_; rintro e wz ⟨rfl, hwz⟩; rw [hwz]; clear hwz wz) | (at_builtin; first | (refine wpList_append_run rfl _ _ 92 rfl _ _ _ _ rfl rfl (unhide HR1) ?_) | (refine wpList_append_run rfl _ _ 92 rfl _ _ _ _ rfl rfl (unhide HR2) ?_) | (refine wpList_append_run rfl _ _ 94 rfl _ _ _ _ rfl rfl (unhide HR9) ?_)))
                exact ⟨⟨k + 1, K + 1, by have := unhide HK; omega, by go_num, by have := unhide HK; omega, ⟨_, _, rfl⟩, ⟨_, _, rfl⟩, ⟨_, _, rfl⟩, unhide HNN, unhide HPRE2⟩, by have := unhide HK; simp [intOf]; omega⟩
              · have hcq : x.cre > 0 := by omega
                have HCP := hide hcp
                clear hcp
                have DM2 : Hid (∀ Y, Calls Tryz.prog 54 #[.int .i64 x.cre, .int .i64 (d : Int)] Y (TxtOut Y (txt x.cre d))) := fun Y => rmoney_any x.cre d (unhide HCA) hd' Y
                go_wp2_with (first | (go_at_call 53; refine (unhide DN).mono ?_; rintro e wz ⟨rfl, hwz⟩; rw [hwz]; clear hwz wz) | (at_builtin; first | (refine wpList_append_run rfl _ _ 92 rfl _ _ _ _ rfl rfl (unhide HR1) ?_) | (refine wpList_append_run rfl _ _ 92 rfl _ _ _ _ rfl rfl (unhide HR2) ?_)))
                have dm2 := hide (unhide DM2 w4)
                refine (unhide dm2).mono ?_
                rintro e w7 ⟨rfl, hb7⟩
                have hl7 : w3.heap.size < w4.heap.size := (Array.getElem?_eq_some_iff.1 (unhide HG4)).1
                have hg7 := (hb7.block _ hl7).trans (unhide HG4)
                have c7 : w7.cell? ⟨w3.heap.size, 2, none⟩ = some (.string ⟨#[]⟩) := by rw [cell_at hg7]; rfl
                have z7 : w7.frozen? ⟨w3.heap.size, 2, none⟩ = false := froz_at hg7
                obtain ⟨Y2, hY2⟩ : ∃ Y, Y = w7.setCell ⟨w3.heap.size, 2, none⟩ (.string (txB (txt x.cre d))) := ⟨_, rfl⟩
                have hg8 := heap_put2 (v := .string (txB (txt x.cre d))) hg7
                rw [← hY2] at hg8
                have hb8 : Below w3.heap.size w3 Y2 := by rw [hY2]; exact ((unhide HB34).trans (hb7.mono (unhide HB34).size)).setCell (p := ⟨w3.heap.size, 2, none⟩) (Nat.le_refl _) _
                have hY2' := hY2.symm
                have HG8 := hide hg8; have HB8 := hide hb8
                clear hb7 hg7 hY2 hg8 hb8 hl7 dm2 DM2
                obtain ⟨pr', cr', w9, r9, HN9⟩ := unhide HROW Y2 (unhide HB8) (by
                  have e1 : unz x.deb d = [] := if_pos (unhide HDP)
                  have e2 : unz x.cre d = txt x.cre d := if_neg (by have := unhide HCP; omega)
                  rw [e1, e2]
                  exact unhide HG8)
                have HR9 := hide r9; have HNN := hide HN9
                clear r9 HN9 HROW
                go_wp2_with (at_builtin; refine wpList_append_run rfl _ _ 94 rfl _ _ _ _ rfl rfl (unhide HR9) ?_)
                exact ⟨⟨k + 1, K + 1, by have := unhide HK; omega, by go_num, by have := unhide HK; omega, ⟨_, _, rfl⟩, ⟨_, _, rfl⟩, ⟨_, _, rfl⟩, unhide HNN, unhide HPRE2⟩, by have := unhide HK; simp [intOf]; omega⟩
            · have hdq : x.deb > 0 := by omega
              have HDP := hide hdp
              clear hdp
              by_cases hcp : x.cre = 0
              · have hcq : ¬ x.cre > 0 := by omega
                have HCP := hide hcp
                clear hcp
                have DM1 := hide (rmoney_any x.deb d (unhide HDA) hd' w4)
                go_wp2_with (first | (go_at_call 53; refine (unhide DN).mono ?_; rintro e wz ⟨rfl, hwz⟩; rw [hwz]; clear hwz wz) | (at_builtin; first | (refine wpList_append_run rfl _ _ 92 rfl _ _ _ _ rfl rfl (unhide HR1) ?_) | (refine wpList_append_run rfl _ _ 92 rfl _ _ _ _ rfl rfl (unhide HR2) ?_)))
                refine (unhide DM1).mono ?_
                rintro e w5 ⟨rfl, hb5⟩
                have hg5 := (hb5.block _ (unhide HLT3)).trans (unhide HG4)
                have c5 : w5.cell? ⟨w3.heap.size, 1, none⟩ = some (.string ⟨#[]⟩) := by rw [cell_at hg5]; rfl
                have z5 : w5.frozen? ⟨w3.heap.size, 1, none⟩ = false := froz_at hg5
                obtain ⟨Y1, hY1⟩ : ∃ Y, Y = w5.setCell ⟨w3.heap.size, 1, none⟩ (.string (txB (txt x.deb d))) := ⟨_, rfl⟩
                have hg6 := heap_put1 (v := .string (txB (txt x.deb d))) hg5
                rw [← hY1] at hg6
                have hb6 : Below w3.heap.size w3 Y1 := by rw [hY1]; exact ((unhide HB34).trans (hb5.mono (unhide HB34).size)).setCell (p := ⟨w3.heap.size, 1, none⟩) (Nat.le_refl _) _
                obtain ⟨j0, j1, j2⟩ := unhide HC3 Y1 hb6
                have hY1' := hY1.symm
                have HG6 := hide hg6; have HB6 := hide hb6
                clear hb5 hg5 hY1 hg6 hb6 DM1
                obtain ⟨pr', cr', w9, r9, HN9⟩ := unhide HROW Y1 (unhide HB6) (by
                  have e1 : unz x.deb d = txt x.deb d := if_neg (by have := unhide HDP; omega)
                  have e2 : unz x.cre d = [] := if_pos (unhide HCP)
                  rw [e1, e2]
                  exact unhide HG6)
                have HR9 := hide r9; have HNN := hide HN9
                clear r9 HN9 HROW
                go_wp2_with (at_builtin; refine wpList_append_run rfl _ _ 94 rfl _ _ _ _ rfl rfl (unhide HR9) ?_)
                exact ⟨⟨k + 1, K + 1, by have := unhide HK; omega, by go_num, by have := unhide HK; omega, ⟨_, _, rfl⟩, ⟨_, _, rfl⟩, ⟨_, _, rfl⟩, unhide HNN, unhide HPRE2⟩, by have := unhide HK; simp [intOf]; omega⟩
              · have hcq : x.cre > 0 := by omega
                have HCP := hide hcp
                clear hcp
                have DM1 := hide (rmoney_any x.deb d (unhide HDA) hd' w4)
                have DM2 : Hid (∀ Y, Calls Tryz.prog 54 #[.int .i64 x.cre, .int .i64 (d : Int)] Y (TxtOut Y (txt x.cre d))) := fun Y => rmoney_any x.cre d (unhide HCA) hd' Y
                go_wp2_with (first | (go_at_call 53; refine (unhide DN).mono ?_; rintro e wz ⟨rfl, hwz⟩; rw [hwz]; clear hwz wz) | (at_builtin; first | (refine wpList_append_run rfl _ _ 92 rfl _ _ _ _ rfl rfl (unhide HR1) ?_) | (refine wpList_append_run rfl _ _ 92 rfl _ _ _ _ rfl rfl (unhide HR2) ?_)))
                refine (unhide DM1).mono ?_
                rintro e w5 ⟨rfl, hb5⟩
                have hg5 := (hb5.block _ (unhide HLT3)).trans (unhide HG4)
                have c5 : w5.cell? ⟨w3.heap.size, 1, none⟩ = some (.string ⟨#[]⟩) := by rw [cell_at hg5]; rfl
                have z5 : w5.frozen? ⟨w3.heap.size, 1, none⟩ = false := froz_at hg5
                obtain ⟨Y1, hY1⟩ : ∃ Y, Y = w5.setCell ⟨w3.heap.size, 1, none⟩ (.string (txB (txt x.deb d))) := ⟨_, rfl⟩
                have hg6 := heap_put1 (v := .string (txB (txt x.deb d))) hg5
                rw [← hY1] at hg6
                have hb6 : Below w3.heap.size w3 Y1 := by rw [hY1]; exact ((unhide HB34).trans (hb5.mono (unhide HB34).size)).setCell (p := ⟨w3.heap.size, 1, none⟩) (Nat.le_refl _) _
                obtain ⟨j0, j1, j2⟩ := unhide HC3 Y1 hb6
                have hY1' := hY1.symm
                have HG6 := hide hg6; have HB6 := hide hb6
                clear hb5 hg5 hY1 hg6 hb6 DM1
                have dm2 := hide (unhide DM2 Y1)
                go_wp2_with fail
                refine (unhide dm2).mono ?_
                rintro e w7 ⟨rfl, hb7⟩
                have hl7 : w3.heap.size < Y1.heap.size := (Array.getElem?_eq_some_iff.1 (unhide HG6)).1
                have hg7 := (hb7.block _ hl7).trans (unhide HG6)
                have c7 : w7.cell? ⟨w3.heap.size, 2, none⟩ = some (.string ⟨#[]⟩) := by rw [cell_at hg7]; rfl
                have z7 : w7.frozen? ⟨w3.heap.size, 2, none⟩ = false := froz_at hg7
                obtain ⟨Y2, hY2⟩ : ∃ Y, Y = w7.setCell ⟨w3.heap.size, 2, none⟩ (.string (txB (txt x.cre d))) := ⟨_, rfl⟩
                have hg8 := heap_put2 (v := .string (txB (txt x.cre d))) hg7
                rw [← hY2] at hg8
                have hb8 : Below w3.heap.size w3 Y2 := by rw [hY2]; exact ((unhide HB6).trans (hb7.mono (unhide HB6).size)).setCell (p := ⟨w3.heap.size, 2, none⟩) (Nat.le_refl _) _
                have hY2' := hY2.symm
                have HG8 := hide hg8; have HB8 := hide hb8
                clear hb7 hg7 hY2 hg8 hb8 hl7 dm2 DM2
                obtain ⟨pr', cr', w9, r9, HN9⟩ := unhide HROW Y2 (unhide HB8) (by
                  have e1 : unz x.deb d = txt x.deb d := if_neg (by have := unhide HDP; omega)
                  have e2 : unz x.cre d = txt x.cre d := if_neg (by have := unhide HCP; omega)
                  rw [e1, e2]
                  exact unhide HG8)
                have HR9 := hide r9; have HNN := hide HN9
                clear r9 HN9 HROW
                go_wp2_with (at_builtin; refine wpList_append_run rfl _ _ 94 rfl _ _ _ _ rfl rfl (unhide HR9) ?_)
                exact ⟨⟨k + 1, K + 1, by have := unhide HK; omega, by go_num, by have := unhide HK; omega, ⟨_, _, rfl⟩, ⟨_, _, rfl⟩, ⟨_, _, rfl⟩, unhide HNN, unhide HPRE2⟩, by have := unhide HK; simp [intOf]; omega⟩
      · have hI : ¬ K < (n : Int) := by omega
        have ek : X.take k = X := List.take_of_length_le (by have := unhide HX; omega)
        have hA := unhide HA
        have hpre := unhide HPRE
        rw [ek] at hA hpre
        have hkn : k = n := by omega
        have hfine := fine_all (unhide HOK) (fstM_all hpre)
        have hF : fstM faultM X = 0 := fstM_all hpre
        have hlen := hA.len
        have hdl : (debL X).length = k := by rw [← hlen]; simp [debL]
        have hcl : (creL X).length = k := by rw [← hlen]; simp [creL]
        have D1 := hide (rsumL (w := w) hdl hA.od (fun z hz => by
          obtain ⟨x, hx, rfl⟩ := List.mem_map.1 hz
          have h1 := (hfine x hx).deb
          exact ⟨by omega, h1.2⟩) (by omega))
        have D2 : Hid (∀ W, Below wo.heap.size wo W → Calls Tryz.prog 55 #[.slice pc k cc] W (TotOut W (creL X))) := fun W hb => rsumL (w := w) hcl (own_below hA.oc hb) (fun z hz => by
          obtain ⟨x, hx, rfl⟩ := List.mem_map.1 hz
          have h1 := (hfine x hx).cre
          exact ⟨by omega, h1.2⟩) (by omega)
        have hs1 := sumL_err (debL_pos hfine)
        have hs2 := sumL_err (creL_pos hfine)
        obtain ⟨a, ha⟩ : ∃ a, a = (sumL (debL X)).1 := ⟨_, rfl⟩
        obtain ⟨ea, hea⟩ : ∃ a, a = (sumL (debL X)).2 := ⟨_, rfl⟩
        obtain ⟨b, hb⟩ : ∃ a, a = (sumL (creL X)).1 := ⟨_, rfl⟩
        obtain ⟨eb, heb⟩ : ∃ a, a = (sumL (creL X)).2 := ⟨_, rfl⟩
        unfold TotOut at D1 D2
        rw [← ha, ← hea] at D1
        rw [← hb, ← heb] at D2
        rw [← hea] at hs1
        rw [← heb] at hs2
        have HERR : Hid (errT (d : Int) X = orE ea eb) := by
          show _ = _
          unfold errT
          rw [if_neg (unhide HBAD), hF, if_neg (by simp), hea, heb]
        have HAT := hide hA; have HA0 := hide ha; have HEA := hide hea; have HB0 := hide hb; have HEB := hide heb; have HFI := hide hfine
        have hkX : k ≤ 1048576 := by omega
        have HLEN := hide hlen
        clear hA hpre ek hkn hfine hF hlen hdl hcl ha hea hb heb hK HA HPRE hk
        go_wp2_with fail
        refine (unhide D1).mono ?_
        rintro e w1 ⟨rfl, hb1⟩
        have HB1 := hide hb1
        have d2 := hide (unhide D2 w1 hb1)
        clear hb1 D1 D2
        go_wp2_with fail
        refine (unhide d2).mono ?_
        rintro e w2 ⟨rfl, hb2⟩
        have HB2 : Hid (Below wo.heap.size wo w2) := (unhide HB1).trans (hb2.mono (unhide HB1).size)
        have HBW2 : Hid (Below w.heap.size w w2) := (unhide HAT).bel.trans ((unhide HB2).mono (unhide HAT).bel.size)
        clear hb2 d2 HB1
        rcases hs1 with he1 | he1
        · subst he1
          rcases hs2 with he2 | he2
          · subst he2
            have hAA : isA a := by rw [unhide HA0]; exact sumL_fits (unhide HEA).symm
            have hBA : isA b := by rw [unhide HB0]; exact sumL_fits (unhide HEB).symm
            have D3 := hide (rmoney_any a d hAA hd' w2)
            have D4 : Hid (∀ W, Calls Tryz.prog 54 #[.int .i64 b, .int .i64 (d : Int)] W (TxtOut W (txt b d))) := fun W => rmoney_any b d hBA hd' W
            clear hAA hBA
            go_wp2_with fail
            refine (unhide D3).mono ?_
            rintro e w3 ⟨rfl, hb3⟩
            have HB3 : Hid (Below wo.heap.size wo w3) := (unhide HB2).trans (hb3.mono (unhide HB2).size)
            have d4 := hide (unhide D4 w3)
            clear hb3 D3 D4
            go_wp2_with fail
            refine (unhide d4).mono ?_
            rintro e w4 ⟨rfl, hb4⟩
            have HB4 : Hid (Below wo.heap.size wo w4) := (unhide HB3).trans (hb4.mono (unhide HB3).size)
            obtain ⟨w5, hw5⟩ : ∃ W, W = w4.alloc (.cells #[.string (txB [83, 117, 109]), .string (txB (txt a d)), .string (txB (txt b d))] 9) := ⟨_, rfl⟩
            have b45 : Below w4.heap.size w4 w5 := by rw [hw5]; exact bal (Below.refl _ _) _
            have hb5 : Below wo.heap.size wo w5 := (unhide HB4).trans (b45.mono (unhide HB4).size)
            have hri : RowIs w5 ⟨some ⟨w4.heap.size, 0, none⟩, 3, 3⟩ (sumT d a b) := by rw [hw5]; exact lit3r w4 _ _ _
            have hrl5 := (unhide HAT).rl.below hb5
            have hlen2 : ([hdT] ++ X.map (rowT d)).length = k + 1 := by simp [unhide HLEN]
            have hbw5 : Below w.heap.size w w5 := (unhide HAT).bel.trans (hb5.mono (unhide HAT).bel.size)
            obtain ⟨pq, cq, w6, r6, rl6, b6, _⟩ := hrl5.app hbw5.size hri (by rw [hlen2]; omega)
            rw [hlen2] at r6 rl6
            have hrows : [hdT] ++ X.map (rowT d) ++ [sumT d a b] = rowsT d X := by
              unfold rowsT
              rw [unhide HA0, unhide HB0]
            rw [hrows] at rl6
            have HR6 := hide r6
            have HRL6 := hide rl6
            have HBW6 : Hid (Below w.heap.size w w6) := hbw5.trans b6
            have hw5' : w4.alloc (.cells #[.string ⟨#[83, 117, 109]⟩, .string (txB (txt a d)), .string (txB (txt b d))] 9) = w5 := hw5.symm
            obtain ⟨w7, hw7⟩ : ∃ W, W = w6.alloc (.cells #[.bool false, .bool true, .bool true] 4) := ⟨_, rfl⟩
            have b67 : Below w6.heap.size w6 w7 := by rw [hw7]; exact bal (Below.refl _ _) _
            have hh7 : w7.heap[w6.heap.size]? = some (.cells #[.bool false, .bool true, .bool true] 4) := by rw [hw7]; exact heap_new _ _
            have D5 : Hid (Calls Tryz.prog 56 #[.slice pq (k + 2) cq, .slice (some ⟨w6.heap.size, 0, none⟩) 3 3] w7 (GridOut w7 (gridT (rgB [false, true, true]) (rowsT d X)))) := by
              refine rgrid_any (by rw [rowsT_count, unhide HLEN]) ((unhide HRL6).below b67).rd (B := [false, true, true]) rfl (fun c q hq => ?_) (N := 3) (rowsT_len d X) (by decide) (by decide) (M := 200) (rowsT_cell hd' (by decide) (fun x hx => by
                have := name_short (unhide HFI x hx).name
                have e : x.acc.data.toList.length = x.acc.size := by simp
                omega)) (by decide) (by rw [rowsT_count, unhide HLEN]; omega) (by omega)
              have hc3 : c = 0 ∨ c = 1 ∨ c = 2 := by
                have := (List.getElem?_eq_some_iff.1 hq).1
                simp at this
                omega
              rw [cell_at hh7]
              rcases hc3 with rfl | rfl | rfl <;> (cases hq; rfl)
            have hw7' := hw7.symm
            have HB67 := hide b67
            have HANS : Hid (ansT (d : Int) X = (gridT (rgB [false, true, true]) (rowsT d X), 0)) := by
              show _ = _
              unfold ansT
              rw [unhide HERR, if_pos (show orE 0 0 = 0 from rfl), sides_same]
              rfl
            clear hb4 d4 hw5 b45 hb5 hri hrl5 hlen2 hbw5 r6 rl6 b6 hrows hw7 b67 hh7
            go_wp2_with (first | (at_builtin; refine wpList_append_run rfl _ _ 94 rfl _ _ _ _ rfl rfl (unhide HR6) ?_) | (go_at_call 56; refine (unhide D5).mono ?_; rintro e w8 ⟨rfl, hw8⟩; rw [hw8]; clear hw8 w8))
            go_ret2
            exact ⟨by rw [unhide HANS]; rfl, (unhide HBW6).trans ((unhide HB67).mono (unhide HBW6).size)⟩
          · subst he2
            have HE : Hid (ansT (d : Int) X = ([], 11)) := by
              show _ = _
              unfold ansT
              rw [unhide HERR]
              rfl
            go_wp2_with fail
            go_ret2
            exact ⟨by rw [unhide HE]; rfl, unhide HBW2⟩
        · subst he1
          have HE : Hid (ansT (d : Int) X = ([], 11)) := by
            show _ = _
            unfold ansT
            rw [unhide HERR]
            rfl
          go_wp2_with fail
          go_ret2
          exact ⟨by rw [unhide HE]; rfl, unhide HBW2⟩
end Go.Proofs.YtcafhmlpmbkhkaaGreatDoor
