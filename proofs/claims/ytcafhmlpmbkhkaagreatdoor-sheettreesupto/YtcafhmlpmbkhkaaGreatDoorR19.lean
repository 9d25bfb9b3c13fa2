import Derived.Test.YtcafhmlpmbkhkaaGreatDoorR15
import Derived.Test.YtcafhmlpmbkhkaaGreatDoorR17
import Derived.Test.YtcafhmlpmbkhkaaGreatDoorR18
namespace Go.Proofs.YtcafhmlpmbkhkaaGreatDoor
open Go Go.Shelf Go.ChangeShapes Go.WideShapes Go.ChangeAt Go.RowKit Go.Maps
set_option linter.unusedVariables false
set_option linter.unusedSimpArgs false
open Mw in
theorem ratio_turn {b D : Int} (hb : isA b) (hD : 1 ≤ D) : ratioSpec b (-1000) D 4 = ratioSpec (-b) 1000 D 4 := by
  have m1 : isMin b = false := isMin_no (by unfold isA at hb; omega)
  have m2 : isMin (-b) = false := isMin_no (by unfold isA at hb; omega)
  have m3 : isMin (-1000) = false := rfl
  have m4 : isMin 1000 = false := rfl
  have n1 : b.natAbs * (-1000 : Int).natAbs = (-b).natAbs * (1000 : Int).natAbs := by rw [Int.natAbs_neg, Int.natAbs_neg]
  have hc : ¬ (D < 1 ∨ (4 : Int) < 0 ∨ (5 : Int) < 4) := by omega
  unfold ratioSpec
  rw [if_neg hc, if_neg hc, m1, m2, m3, m4, n1]
  by_cases h0 : b = 0
  · subst h0
    have e : ∀ o, rq 4 o ((-0 : Int).natAbs * (1000 : Int).natAbs) D.natAbs = 0 := fun o => by
      unfold rq stepB
      simp
    rw [e, e]
    simp
  · have ho : opp b (-1000) = opp (-b) 1000 := by
      unfold opp
      by_cases h1 : b < 0
      · have h2 : ¬ -b < 0 := by omega
        simp [h1]
        omega
      · have h2 : -b < 0 := by omega
        simp [h1]
        omega
    rw [ho]
open Mw in
theorem ratio_isA (a n d h : Int) : isA (ratioSpec a n d h).1 := by
  unfold ratioSpec isA
  split
  · exact ⟨by decide, by decide⟩
  · split
    · exact ⟨by decide, by decide⟩
    · split
      · rename_i q
        revert q
        cases opp a n <;> (intro q; simp; omega)
      · exact ⟨by decide, by decide⟩
def shrQ (b r : Int) : Int × Int := if r < 0 then Mw.ratioSpec (-b) 1000 (-r) 4 else Mw.ratioSpec b 1000 r 4
noncomputable def shrN (b r : Int) : Tx := if r = 0 then [] else if (shrQ b r).2 = 0 then txt (shrQ b r).1 1 ++ [37] else [42]
theorem shrQ_isA (b r : Int) : isA (shrQ b r).1 := by
  unfold shrQ
  split <;> exact ratio_isA _ _ _ _
theorem shrN_len (b r : Int) : (shrN b r).length ≤ 200 := by
  unfold shrN
  split
  · simp
  · split
    · have := txt_len (shrQ b r).1 1 (by omega)
      rw [List.length_append]
      simp
      omega
    · simp
set_option maxRecDepth 100000 in
set_option maxHeartbeats 4000000 in
theorem rshare_any (b r : Int) (hb : isA b) (hr : isA r) (w : World) : Calls Tryz.prog 131 #[.int .i64 b, .int .i64 r] w (TxtOut w (shrN b r)) := by
  have b1 := hb.1; have b2 := hb.2; have r1 := hr.1; have r2 := hr.2
  by_cases h0 : r = 0
  · subst h0
    have HE : Hid (shrN b 0 = []) := by show _ = _; unfold shrN; rw [if_pos rfl]
    have HB : Hid (Below w.heap.size w w) := Below.refl _ _
    go_enter Tryz.func131, Tryz.ntmps131
    go_wp2_with fail
    go_ret
    exact ⟨by rw [unhide HE]; rfl, unhide HB⟩
  · have hz : (r == 0) = false := beq_eq_false_iff_ne.2 h0
    have D : Calls Tryz.prog 195 #[.int .i64 (if r < 0 then -b else b), .int .i64 1000, .int .i64 (if r < 0 then -r else r), .int .i64 4] w fun e w' => e = .returned (.tuple #[.int .i64 (shrQ b r).1, .int .i64 (shrQ b r).2]) ∧ Below w.heap.size w w' := by
      unfold shrQ
      split
      · exact Mw.rratio_any (-b) 1000 (-r) 4 w (by omega) (by omega) (by omega) (by omega) (by omega)
      · exact Mw.rratio_any b 1000 r 4 w (by omega) (by omega) (by omega) (by omega) (by omega)
    obtain ⟨q, hq⟩ : ∃ q, q = (shrQ b r).1 := ⟨_, rfl⟩
    obtain ⟨z, hz2⟩ : ∃ z, z = (shrQ b r).2 := ⟨_, rfl⟩
    rw [← hq, ← hz2] at D
    have hqA : isA q := by rw [hq]; exact shrQ_isA b r
    have HE : Hid (shrN b r = if z = 0 then txt q 1 ++ [37] else [42]) := by show _ = _; unfold shrN; rw [if_neg h0, ← hq, ← hz2]
    have HQA := hide hqA
    obtain ⟨T, hT⟩ : ∃ T, T = txB (txt q 1) := ⟨_, rfl⟩
    have hTs : T.size ≤ 200 := by rw [hT, txB_len]; have := txt_len q 1 (by omega); omega
    have HT := hide hT
    have k1 : ¬ 9223372036854775807 < T.size + 1 := by omega
    have HM : Hid (∀ W : World, Calls Tryz.prog 54 #[.int .i64 q, .int .i64 1] W fun e w' => e = .returned (.string T) ∧ Below W.heap.size W w') := fun W => by
      have := rmoney_any q 1 (unhide HQA) (by omega) W
      unfold TxtOut at this
      rw [← unhide HT] at this
      exact this
    clear hq hz2 hqA hT hTs hb hr
    by_cases hn : r < 0
    · rw [if_pos hn, if_pos hn] at D
      replace D := hide D
      by_cases hz0 : z = 0
      · subst hz0
        go_enter Tryz.func131, Tryz.ntmps131
        go_wp2_with first | (go_at_call 195; refine (unhide D).mono ?_; rintro e w1 ⟨rfl, hb1⟩; have HB1 := hide hb1; have D2 := hide (unhide HM w1); clear D hb1) | (go_at_call 54; refine (unhide D2).mono ?_; rintro e w2 ⟨rfl, hb2⟩; have HB2 := hide ((unhide HB1).trans (hb2.mono (unhide HB1).size)); clear D2 hb2)
        go_ret
        refine ⟨?_, unhide HB2⟩
        rw [unhide HE, if_pos trivial, ← txB_app, ← unhide HT]
        rfl
      · have hzz : (z != 0) = true := by rw [bne_iff_ne]; exact hz0
        go_enter Tryz.func131, Tryz.ntmps131
        go_wp2_with (go_at_call 195; refine (unhide D).mono ?_; rintro e w1 ⟨rfl, hb1⟩; have HB1 := hide hb1; clear D hb1)
        go_ret
        refine ⟨?_, unhide HB1⟩
        rw [unhide HE, if_neg hz0]
        rfl
    · rw [if_neg hn, if_neg hn] at D
      replace D := hide D
      by_cases hz0 : z = 0
      · subst hz0
        go_enter Tryz.func131, Tryz.ntmps131
        go_wp2_with first | (go_at_call 195; refine (unhide D).mono ?_; rintro e w1 ⟨rfl, hb1⟩; have HB1 := hide hb1; have D2 := hide (unhide HM w1); clear D hb1) | (go_at_call 54; refine (unhide D2).mono ?_; rintro e w2 ⟨rfl, hb2⟩; have HB2 := hide ((unhide HB1).trans (hb2.mono (unhide HB1).size)); clear D2 hb2)
        go_ret
        refine ⟨?_, unhide HB2⟩
        rw [unhide HE, if_pos trivial, ← txB_app, ← unhide HT]
        rfl
      · have hzz : (z != 0) = true := by rw [bne_iff_ne]; exact hz0
        go_enter Tryz.func131, Tryz.ntmps131
        go_wp2_with (go_at_call 195; refine (unhide D).mono ?_; rintro e w1 ⟨rfl, hb1⟩; have HB1 := hide hb1; clear D hb1)
        go_ret
        refine ⟨?_, unhide HB1⟩
        rw [unhide HE, if_neg hz0]
        rfl
def gO (F : ByteArray → Option Int) (s : ByteArray) : Int := (F s).getD 0
theorem gO_isA {F : ByteArray → Option Int} (h : ∀ s a, F s = some a → isA a) (s : ByteArray) : isA (gO F s) := by
  unfold gO
  cases hv : F s with
  | none => exact ⟨by decide, by decide⟩
  | some a => exact h s a hv
def trO (d mb : Nat) : Obj := .cells #[.int .i64 (d : Int), .map (some mb)] 175
set_option maxRecDepth 100000 in
set_option maxHeartbeats 4000000 in
theorem rollup_any {w : World} {mb n : Nat} {F : ByteArray → Option Int} (h : Rm w mb n F) (hF : ∀ s a, F s = some a → isA a) (d : Nat) (hd : d ≤ 6) (s : ByteArray) (hs : s.size ≤ 1048576) (hP : Kg.Pw w) :
    Calls Tryz.prog 122 #[.agg #[.int .i64 (d : Int), .map (some mb)], .string s] w (TxtOut w (txt (gO F s) d)) := by
  obtain ⟨w1, hw1⟩ : ∃ W, W = w.alloc (trO d mb) := ⟨_, rfl⟩
  have b1 : Below w.heap.size w w1 := by rw [hw1]; exact bal (Below.refl _ _) _
  have hh1 : w1.heap[w.heap.size]? = some (trO d mb) := by rw [hw1]; exact heap_new _ _
  have c0 : w1.cell? ⟨w.heap.size, 0, none⟩ = some (.int .i64 (d : Int)) := by rw [cell_at hh1]; rfl
  have c1 : w1.cell? ⟨w.heap.size, 1, none⟩ = some (.map (some mb)) := by rw [cell_at hh1]; rfl
  have hl := (h.below b1).get s (by unfold maxLen; omega)
  rw [show (F s).getD 0 = gO F s from rfl] at hl
  obtain ⟨v, hv⟩ : ∃ v, v = gO F s := ⟨_, rfl⟩
  have hvA : isA v := by rw [hv]; exact gO_isA hF s
  rw [← hv] at hl ⊢
  have D := amount_any v d hvA hd w1 (hP.below b1)
  unfold TxtOut at D
  have D2 : Hid (Calls Tryz.prog 50 #[.agg #[.int .i64 (d : Int)], .int .i64 v] w1 fun e w' => e = .returned (.string (txB (txt v d))) ∧ Below w1.heap.size w1 w') := D
  have HB := hide b1
  have hw1' : w.alloc (.cells #[.int .i64 (d : Int), .map (some mb)] 175) = w1 := by rw [hw1]; rfl
  obtain ⟨T, hT⟩ : ∃ T, T = txB (txt v d) := ⟨_, rfl⟩
  rw [← hT] at D2
  have HT := hide hT
  clear hw1 b1 hh1 h hF hP hv hvA D hT
  go_enter Tryz.func122, Tryz.ntmps122
  go_wp2_with (go_at_call 50; refine (unhide D2).mono ?_; rintro e w2 ⟨rfl, hb2⟩; have HB2 := hide ((unhide HB).trans (hb2.mono (unhide HB).size)); clear hb2 D2)
  go_ret
  exact ⟨by rw [← unhide HT]; rfl, unhide HB2⟩
end Go.Proofs.YtcafhmlpmbkhkaaGreatDoor
namespace Go.Proofs.YtcafhmlpmbkhkaaGreatDoor
open Go Go.Shelf Go.ChangeShapes Go.WideShapes Go.ChangeAt Go.RowKit Go.Maps
set_option linter.unusedVariables false
set_option linter.unusedSimpArgs false
def rootB (s : ByteArray) : ByteArray := Ch.lastS (pathL s.data.toList)
theorem last_le : ∀ (n : Nat) (x : List UInt8), x.length ≤ n → ((x :: ups x).getLastD []).length ≤ x.length
  | 0, x, h => by
    rcases Ch.ups_cases x with e | ⟨p, e, hp, _⟩
    · rw [e]; exact Nat.le_refl _
    · omega
  | n + 1, x, h => by
    rcases Ch.ups_cases x with e | ⟨p, e, hp, _⟩
    · rw [e]; exact Nat.le_refl _
    · rw [e]
      have := last_le n p (by omega)
      have e2 : (x :: p :: ups p).getLastD [] = (p :: ups p).getLastD [] := rfl
      rw [e2]
      omega
theorem rootB_size (s : ByteArray) : (rootB s).size ≤ s.size := by
  unfold rootB Ch.lastS pathL
  split
  · have := last_le _ s.data.toList (Nat.le_refl _)
    show (List.toArray _).size ≤ _
    rw [List.size_toArray]
    simpa using this
  · exact Nat.zero_le _
set_option maxRecDepth 100000 in
set_option maxHeartbeats 8000000 in
theorem share_any {w : World} {mb n : Nat} {F : ByteArray → Option Int} (h : Rm w mb n F) (hF : ∀ s a, F s = some a → isA a) (d : Nat) (hd : d ≤ 6) (s : ByteArray) (hs : s.size ≤ 1048576) (hP : Kg.Pw w) :
    Calls Tryz.prog 123 #[.agg #[.int .i64 (d : Int), .map (some mb)], .string s] w (TxtOut w (shrN (gO F s) (gO F (rootB s)))) := by
  obtain ⟨wb, hwb⟩ : ∃ b, b = w.heap.size := ⟨_, rfl⟩
  obtain ⟨w1, hw1⟩ : ∃ W, W = w.alloc (trO d mb) := ⟨_, rfl⟩
  have b1 : Below w.heap.size w w1 := by rw [hw1]; exact bal (Below.refl _ _) _
  have hh1 : w1.heap[wb]? = some (trO d mb) := by rw [hw1, hwb]; exact heap_new _ _
  obtain ⟨rt, hrt⟩ : ∃ r, r = rootB s := ⟨_, rfl⟩
  have hrs : rt.size ≤ 1048576 := by rw [hrt]; exact Nat.le_trans (rootB_size s) hs
  obtain ⟨b, hb⟩ : ∃ v, v = gO F s := ⟨_, rfl⟩
  obtain ⟨r, hr⟩ : ∃ v, v = gO F rt := ⟨_, rfl⟩
  have hbA : isA b := by rw [hb]; exact gO_isA hF s
  have hrA : isA r := by rw [hr]; exact gO_isA hF rt
  have HM : Hid (∀ W, Below w1.heap.size w1 W → W.cell? ⟨wb, 1, none⟩ = some (.map (some mb)) ∧ (Instr.lookup 171 (.map (some mb)) (.string rt) false).run Tryz.prog W = .ok (.int .i64 r) W ∧ (Instr.lookup 171 (.map (some mb)) (.string s) false).run Tryz.prog W = .ok (.int .i64 b) W ∧ Below w.heap.size w W) := fun W hW => by
    have hx := b1.trans (hW.mono b1.size)
    have hm := h.below hx
    refine ⟨?_, ?_, ?_, hx⟩
    · rw [cell_at ((hW.block _ (Array.getElem?_eq_some_iff.1 hh1).1).trans hh1)]; rfl
    · have := hm.get rt (by unfold maxLen; omega)
      rw [hr]
      exact this
    · have := hm.get s (by unfold maxLen; omega)
      rw [hb]
      exact this
  have HP : Hid (∀ W, Below w.heap.size w W → Kg.Pw W) := fun W hW => hP.below hW
  have D1 := Ch.root_any s (by omega) w1.drew
  rw [show Ch.lastS (pathL s.data.toList) = rt from hrt.symm] at D1
  replace D1 := hide D1
  have q1 := unhide HM w1.drew (below_drewN (Below.refl _ _) 1)
  have Q1 := hide q1
  have hw1' : w.alloc (.cells #[.int .i64 (d : Int), .map (some mb)] 175) = w1 := by rw [hw1]; rfl
  have HE : Hid (shrN (gO F s) (gO F (rootB s)) = shrN b r) := by show _ = _; rw [hb, hr, hrt]
  have p1 := hbA.1; have p2 := hbA.2; have p3 := hrA.1; have p4 := hrA.2
  have HBA := hide hbA; have HWB := hide hwb
  rw [unhide HE]
  clear HE
  have DQ : ∀ W : World, r ≠ 0 → Calls Tryz.prog 190 #[.int .i64 b, .int .i64 (if r < 0 then -1000 else 1000), .int .i64 (if r < 0 then -r else r), .int .i64 4] W fun e w' => e = .returned (.tuple #[.int .i64 (shrQ b r).1, .int .i64 (shrQ b r).2]) ∧ Below W.heap.size W w' := fun W h0 => by
    unfold shrQ
    split
    · have := Mw.mratio_any b (-1000) (-r) 4 W (by omega) (by omega) (by omega) (by omega) (by omega) (by omega)
      rw [ratio_turn hbA (by omega)] at this
      exact this
    · exact Mw.mratio_any b 1000 r 4 W (by omega) (by omega) (by omega) (by omega) (by omega) (by omega)
  obtain ⟨q, hq⟩ : ∃ q, q = (shrQ b r).1 := ⟨_, rfl⟩
  obtain ⟨z, hz2⟩ : ∃ z, z = (shrQ b r).2 := ⟨_, rfl⟩
  rw [← hq, ← hz2] at DQ
  have hqA : isA q := by rw [hq]; exact shrQ_isA b r
  have HE : Hid (r ≠ 0 → shrN b r = if z = 0 then txt q 1 ++ [37] else [42]) := fun h0 => by unfold shrN; rw [if_neg h0, ← hq, ← hz2]
  have HQA := hide hqA
  obtain ⟨T, hT⟩ : ∃ T, T = txB (txt q 1) := ⟨_, rfl⟩
  have hTs : T.size ≤ 200 := by rw [hT, txB_len]; have := txt_len q 1 (by omega); omega
  have HT := hide hT
  have k1 : ¬ 9223372036854775807 < T.size + 1 := by omega
  have HMY : Hid (∀ W : World, Below w.heap.size w W → Calls Tryz.prog 50 #[.agg #[.int .i64 1], .int .i64 q] W fun e w' => e = .returned (.string T) ∧ Below W.heap.size W w') := fun W hW => by
    have := amount_any q 1 (unhide HQA) (by omega) W (unhide HP W hW)
    unfold TxtOut at this
    rw [← unhide HT] at this
    exact this
  have HDQ := hide DQ
  clear hq hz2 hqA hT hTs hw1 b1 hh1 hrt hrs hb hr hbA hrA h hF hP DQ
  clear hs
  clear hwb
  by_cases h0 : r = 0
  · subst h0
    have HE0 : Hid (shrN b 0 = []) := by show _ = _; unfold shrN; rw [if_pos rfl]
    go_enter Tryz.func123, Tryz.ntmps123
    go_upto_region 1 with fail
    rw [← unhide HWB]
    refine wp_region_last (n := 7) (S := fun W => W.cell? ⟨wb, 1, none⟩ = some (.map (some mb)) ∧ (Instr.lookup 171 (.map (some mb)) (.string rt) false).run Tryz.prog W = .ok (.int .i64 0) W) (by kernel_rfl) ⟨q1.1, q1.2.1⟩ (fun hHeld => ?_)
    clear hHeld
    have qq := And.intro q1.1 q1.2.1
    refine tkW 0 ?_
    refine tkN 1 ?_ (hy := by (refine Or.inl ⟨by rfl, ?_⟩; intro W hSW; obtain ⟨hA, hB⟩ := hSW; go_simp; try with_reducible rfl))
    refine tkW 2 ?_
    clear qq q1
    refine wpAnyL_one (i := 3) (by kernel_rfl) rfl (fun KK hK => ?_)
    go_simp
    go_wp2_with (go_at_call 189; refine (unhide D1).mono ?_; rintro e w2 ⟨rfl, hb2⟩; have HB2 : Hid (Below w1.heap.size w1 w2) := (below_drewN (Below.refl _ _) 1).trans hb2; clear hb2 D1)
    have q2 := unhide HM w2 (unhide HB2)
    have Q2 := hide q2
    refine hK.out _ _ ⟨q2.1, q2.2.1⟩ (fun hHeld => ?_)
    clear hK KK hHeld
    have qq := And.intro q2.1 q2.2.1
    refine tkN 4 ?_ (hy := by (refine Or.inl ⟨by rfl, ?_⟩; intro W hSW; obtain ⟨hA, hB⟩ := hSW; go_simp; try with_reducible rfl))
    refine tkW 5 ?_; refine tkW 6 ?_
    refine wpAnyL_done (by kernel_rfl) ?_
    have HBW : Hid (Below w.heap.size w w2) := q2.2.2.2
    obtain ⟨cM, -, lB, -⟩ := q2
    clear qq
    clear cM lB
    go_wp2_with fail
    go_ret
    exact ⟨by rw [unhide HE0]; rfl, unhide HBW⟩
  · have hz : (r == 0) = false := beq_eq_false_iff_ne.2 h0
    have HEZ := unhide HE h0
    replace HEZ := hide HEZ
    go_enter Tryz.func123, Tryz.ntmps123
    go_upto_region 1 with fail
    rw [← unhide HWB]
    refine wp_region_last (n := 7) (S := fun W => W.cell? ⟨wb, 1, none⟩ = some (.map (some mb)) ∧ (Instr.lookup 171 (.map (some mb)) (.string rt) false).run Tryz.prog W = .ok (.int .i64 r) W) (by kernel_rfl) ⟨q1.1, q1.2.1⟩ (fun hHeld => ?_)
    clear hHeld
    have qq := And.intro q1.1 q1.2.1
    refine tkW 0 ?_
    refine tkN 1 ?_ (hy := by (refine Or.inl ⟨by rfl, ?_⟩; intro W hSW; obtain ⟨hA, hB⟩ := hSW; go_simp; try with_reducible rfl))
    refine tkW 2 ?_
    clear qq q1
    refine wpAnyL_one (i := 3) (by kernel_rfl) rfl (fun KK hK => ?_)
    go_simp
    go_wp2_with (go_at_call 189; refine (unhide D1).mono ?_; rintro e w2 ⟨rfl, hb2⟩; have HB2 : Hid (Below w1.heap.size w1 w2) := (below_drewN (Below.refl _ _) 1).trans hb2; clear hb2 D1)
    have q2 := unhide HM w2 (unhide HB2)
    have Q2 := hide q2
    refine hK.out _ _ ⟨q2.1, q2.2.1⟩ (fun hHeld => ?_)
    clear hK KK hHeld
    have qq := And.intro q2.1 q2.2.1
    refine tkN 4 ?_ (hy := by (refine Or.inl ⟨by rfl, ?_⟩; intro W hSW; obtain ⟨hA, hB⟩ := hSW; go_simp; try with_reducible rfl))
    refine tkW 5 ?_; refine tkW 6 ?_
    refine wpAnyL_done (by kernel_rfl) ?_
    have HBW : Hid (Below w.heap.size w w2) := q2.2.2.2
    obtain ⟨cM, -, lB, -⟩ := q2
    clear qq
    have D := unhide HDQ w2 h0
    clear Q1 Q2
    by_cases hn : r < 0
    · rw [if_pos hn, if_pos hn] at D
      replace D := hide D
      by_cases hz0 : z = 0
      · subst hz0
        go_wp2_with first | (go_at_call 190; refine (unhide D).mono ?_; rintro e w3 ⟨rfl, hb3⟩; have HB3 : Hid (Below w.heap.size w w3) := (unhide HBW).trans (hb3.mono (unhide HBW).size); have D2 := hide (unhide HMY w3 (unhide HB3)); clear hb3 D) | (go_at_call 50; refine (unhide D2).mono ?_; rintro e w4 ⟨rfl, hb4⟩; have HB4 : Hid (Below w.heap.size w w4) := (unhide HB3).trans (hb4.mono (unhide HB3).size); clear hb4 D2)
        go_ret
        refine ⟨?_, unhide HB4⟩
        rw [unhide HEZ, if_pos trivial, ← txB_app, ← unhide HT]
        rfl
      · have hzz : (z != 0) = true := by rw [bne_iff_ne]; exact hz0
        go_wp2_with (go_at_call 190; refine (unhide D).mono ?_; rintro e w3 ⟨rfl, hb3⟩; have HB3 : Hid (Below w.heap.size w w3) := (unhide HBW).trans (hb3.mono (unhide HBW).size); have D2 := hide (unhide HMY w3 (unhide HB3)); clear hb3 D)
        go_ret
        refine ⟨?_, unhide HB3⟩
        rw [unhide HEZ, if_neg hz0]
        rfl
    · rw [if_neg hn, if_neg hn] at D
      replace D := hide D
      by_cases hz0 : z = 0
      · subst hz0
        go_wp2_with first | (go_at_call 190; refine (unhide D).mono ?_; rintro e w3 ⟨rfl, hb3⟩; have HB3 : Hid (Below w.heap.size w w3) := (unhide HBW).trans (hb3.mono (unhide HBW).size); have D2 := hide (unhide HMY w3 (unhide HB3)); clear hb3 D) | (go_at_call 50; refine (unhide D2).mono ?_; rintro e w4 ⟨rfl, hb4⟩; have HB4 : Hid (Below w.heap.size w w4) := (unhide HB3).trans (hb4.mono (unhide HB3).size); clear hb4 D2)
        go_ret
        refine ⟨?_, unhide HB4⟩
        rw [unhide HEZ, if_pos trivial, ← txB_app, ← unhide HT]
        rfl
      · have hzz : (z != 0) = true := by rw [bne_iff_ne]; exact hz0
        go_wp2_with (go_at_call 190; refine (unhide D).mono ?_; rintro e w3 ⟨rfl, hb3⟩; have HB3 : Hid (Below w.heap.size w w3) := (unhide HBW).trans (hb3.mono (unhide HBW).size); have D2 := hide (unhide HMY w3 (unhide HB3)); clear hb3 D)
        go_ret
        refine ⟨?_, unhide HB3⟩
        rw [unhide HEZ, if_neg hz0]
        rfl
end Go.Proofs.YtcafhmlpmbkhkaaGreatDoor
