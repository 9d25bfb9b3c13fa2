import Derived.Test.YtcafhmlpmbkhkaaGreatDoorW41
import Derived.Test.YtcafhmlpmbkhkaaGreatDoorW19
/- The document's Statement (22). -/
namespace Go.Proofs.YtcafhmlpmbkhkaaGreatDoor
open Go Go.Shelf Go.ChangeShapes Go.WideShapes Go.ChangeAt Go.RowKit Go.Maps
set_option linter.unusedVariables false
set_option linter.unusedSimpArgs false
attribute [local go_sem ↓] ldQ_is
set_option maxRecDepth 100000 in
set_option maxHeartbeats 16000000 in
theorem rstatement_bad {w : World} {p : Option Addr} {n c : Nat} {X : List Qm} (acc : ByteArray) (hacc : acc.size < 4611686018427387904) (a0 a1 a2 a3 a4 : Int)
    (t : Int) (ht : fits64 t) (dg : Int) (hdg : fits64 dg) (hb : dg < 0 ∨ 6 < dg ∨ isDb t = false ∨ nameL acc.data.toList = false) :
    Calls Tryz.prog 22 #[.string acc, .slice p n c, agV a0 a1 a2 a3 a4, .int .i64 t, .int .i64 dg] w (TriOut w (ansS dg acc X [a0, a1, a2, a3, a4] t)) := by
  obtain ⟨w1, hw1⟩ : ∃ W, W = w.alloc (ageO a0 a1 a2 a3 a4) := ⟨_, rfl⟩
  have HB : Hid (Below w.heap.size w w1) := by rw [hw1]; exact bal (Below.refl _ _) _
  have hw1' : w.alloc (.cells #[.int .i64 a0, .int .i64 a1, .int .i64 a2, .int .i64 a3, .int .i64 a4] 48) = w1 := hw1.symm
  obtain ⟨db, hdb⟩ : ∃ b, b = isDb t := ⟨_, rfl⟩
  have DD := hide (rIsD_any t w1)
  have DG := hide (rname_any acc (by omega) w1)
  obtain ⟨nb, hnb⟩ : ∃ b, b = nameL acc.data.toList := ⟨_, rfl⟩
  rw [← hdb] at DD
  rw [← hnb] at DG
  unfold agV
  by_cases hbad : dg < 0 ∨ 6 < dg
  · have HE : Hid (ansS dg acc X [a0, a1, a2, a3, a4] t = ([], 1)) := by
      have e : errS dg acc X [a0, a1, a2, a3, a4] t = 1 := by unfold errS; rw [if_pos (by omega)]
      show _ = _
      unfold ansS
      rw [e, if_neg (by decide)]
    have D := hide (rdig_no dg w1 hbad)
    clear hw1 hbad hb DG DD
    go_enter Tryz.func22, Tryz.ntmps22
    go_wp2_with (go_at_call 52; refine (unhide D).mono ?_; rintro e wz ⟨rfl, hwz⟩; rw [hwz]; clear hwz wz)
    go_ret2
    exact ⟨by rw [unhide HE]; rfl, unhide HB⟩
  · have D := hide (rdig_yes dg w1 (by omega) (by omega))
    cases db with
    | false =>
      have HE : Hid (ansS dg acc X [a0, a1, a2, a3, a4] t = ([], 1)) := by
        have e : errS dg acc X [a0, a1, a2, a3, a4] t = 1 := by unfold errS; rw [if_pos (.inr (.inr hdb.symm))]
        show _ = _
        unfold ansS
        rw [e, if_neg (by decide)]
      clear hw1 hbad hb DG hdb
      go_enter Tryz.func22, Tryz.ntmps22
      go_wp2_with first | (go_at_call 52; refine (unhide D).mono ?_; rintro e wz ⟨rfl, hwz⟩; rw [hwz]; clear hwz wz) | (go_at_call 96; refine (unhide DD).mono ?_; rintro e wz ⟨rfl, hwz⟩; rw [hwz]; clear hwz wz)
      go_ret2
      exact ⟨by rw [unhide HE]; rfl, unhide HB⟩
    | true =>
      have hnf : nb = false := by
        rcases hb with h | h | h | h
        · exact absurd (.inl h) hbad
        · exact absurd (.inr h) hbad
        · rw [h] at hdb; cases hdb
        · rw [hnb, h]
      subst hnf
      have HE : Hid (ansS dg acc X [a0, a1, a2, a3, a4] t = ([], 60)) := by
        have e : errS dg acc X [a0, a1, a2, a3, a4] t = 60 := by
          unfold errS
          rw [if_neg (by rw [← hdb]; simp; omega), if_pos hnb.symm]
        show _ = _
        unfold ansS
        rw [e, if_neg (by decide)]
      clear hw1 hbad hb hdb hnb
      go_enter Tryz.func22, Tryz.ntmps22
      go_wp2_with first | (go_at_call 52; refine (unhide D).mono ?_; rintro e wz ⟨rfl, hwz⟩; rw [hwz]; clear hwz wz) | (go_at_call 96; refine (unhide DD).mono ?_; rintro e wz ⟨rfl, hwz⟩; rw [hwz]; clear hwz wz) | (go_at_call 53; refine (unhide DG).mono ?_; rintro e wz ⟨rfl, hwz⟩; rw [hwz]; clear hwz wz)
      go_ret2
      exact ⟨by rw [unhide HE]; rfl, unhide HB⟩
theorem sides_five : rgB [false, false, false, true, true] = rgt [0, 0, 0, 1, 1] := by
  funext c
  unfold rgB rgt
  match c with
  | 0 => rfl
  | 1 => rfl
  | 2 => rfl
  | 3 => rfl
  | 4 => rfl
  | n + 5 => simp [List.getD]
theorem sides_two : rgB [false, true] = rgt [0, 1] := by
  funext c
  unfold rgB rgt
  match c with
  | 0 => rfl
  | 1 => rfl
  | n + 2 => simp [List.getD]
set_option maxRecDepth 100000 in
set_option maxHeartbeats 16000000 in
theorem rstatement_good {w : World} {p : Option Addr} {n c : Nat} {X : List Qm} (hX : X.length = n) (hL : Lies kQ w p X) (hok : ∀ x ∈ X, QmOk x) (hn : n ≤ 1048576) (acc : ByteArray) (hacc : acc.size < 4611686018427387904) (a0 a1 a2 a3 a4 : Int)
    (hA : ∀ z ∈ [a0, a1, a2, a3, a4], fits64 z) (t : Int) (d : Nat) (hd' : d ≤ 6) (htt : isDb t = true) (hnm : nameL acc.data.toList = true) :
    Calls Tryz.prog 22 #[.string acc, .slice p n c, agV a0 a1 a2 a3 a4, .int .i64 t, .int .i64 (d : Int)] w (TriOut w (ansS (d : Int) acc X [a0, a1, a2, a3, a4] t)) := by
  have htD := (isDb_iff t).1 htt
  obtain ⟨w1, hw1⟩ : ∃ W, W = w.alloc (ageO a0 a1 a2 a3 a4) := ⟨_, rfl⟩
  obtain ⟨w2, hw2⟩ : ∃ W, W = w1.alloc (litB hdS) := ⟨_, rfl⟩
  obtain ⟨w3, hw3⟩ : ∃ W, W = w2.alloc (.cells #[.slice (some ⟨w1.heap.size, 0, none⟩) 5 5] 93) := ⟨_, rfl⟩
  have b01 : Below w.heap.size w w1 := by rw [hw1]; exact bal (Below.refl _ _) _
  have b12 : Below w1.heap.size w1 w2 := by rw [hw2]; exact bal (Below.refl _ _) _
  have b23 : Below w2.heap.size w2 w3 := by rw [hw3]; exact bal (Below.refl _ _) _
  have hh1 : w1.heap[w.heap.size]? = some (ageO a0 a1 a2 a3 a4) := by rw [hw1]; exact heap_new _ _
  have HC1 : Hid (∀ W, Below w1.heap.size w1 W → W.heap[w.heap.size]? = some (ageO a0 a1 a2 a3 a4)) := fun W hb => (hb.block _ (Array.getElem?_eq_some_iff.1 hh1).1).trans hh1
  have hr0 : RsAt w1 d t [] 0 (.slice none 0 0) (.slice (some ⟨w2.heap.size, 0, none⟩) 1 1) w3 := by
    refine ⟨rfl, World.ownsRow_nil _ _ _ _, ⟨[(⟨some ⟨w1.heap.size, 0, none⟩, 5, 5⟩ : Sl)], ?_, rfl, fun k s r hs hr => ?_⟩, b12.trans (b23.mono b12.size)⟩
    · rw [hw3]
      exact World.ownsRow_lit (base := w1.heap.size) (e := 93) (size := 1) w2 #[.slice (some ⟨w1.heap.size, 0, none⟩) 5 5] 1 b12.size (by decide) rfl
    · have hk : k = 0 := by
        have := (List.getElem?_eq_some_iff.1 hs).1
        simp at this
        exact this
      subst hk
      cases hs
      cases hr
      have : RowIs w2 ⟨some ⟨w1.heap.size, 0, none⟩, 5, 5⟩ hdS := by
        rw [hw2]
        exact litL w1 hdS
      exact this.gd (Gd.of_below (B := 0) b23 (Nat.zero_le _))
  have D0 := hide (rdig_yes (d : Int) w1 (by omega) (by omega))
  have DD := hide (rIsD_any t w1)
  have DG := hide (rname_any acc (by omega) w1)
  rw [htt] at DD
  rw [hnm] at DG
  have HNB : Hid (¬ ((d : Int) < 0 ∨ 6 < (d : Int) ∨ isDb t = false)) := by show ¬ _; rw [htt]; simp; omega
  have HNM : Hid (¬ nameL acc.data.toList = false) := by show ¬ _; rw [hnm]; simp
  have HB01 := hide b01
  have hw1' : w.alloc (.cells #[.int .i64 a0, .int .i64 a1, .int .i64 a2, .int .i64 a3, .int .i64 a4] 48) = w1 := hw1.symm
  have hw2' : w1.alloc (.cells #[.string ⟨#[75, 101, 121]⟩, .string ⟨#[68, 97, 116, 101]⟩, .string ⟨#[68, 117, 101]⟩, .string ⟨#[79, 112, 101, 110]⟩, .string ⟨#[68, 97, 121, 115]⟩] 9) = w2 := hw2.symm
  have hw3' := hw3.symm
  have HR0 := hide hr0; have HX := hide hX; have HL := hide (hL.below b01); have HOK := hide hok; have HAF := hide hA; have HN := hide hn
  unfold agV
  clear hr0 hw1 hw2 hw3 b01 b12 b23 hX hL hok hA hh1 hacc hn
  go_enter Tryz.func22, Tryz.ntmps22
  go_wp2_with first | (go_at_call 52; refine (unhide D0).mono ?_; rintro e wz ⟨rfl, hwz⟩; rw [hwz]; clear hwz wz) | (go_at_call 96; refine (unhide DD).mono ?_; rintro e wz ⟨rfl, hwz⟩; rw [hwz]; clear hwz wz) | (go_at_call 53; refine (unhide DG).mono ?_; rintro e wz ⟨rfl, hwz⟩; rw [hwz]; clear hwz wz)
  go_loopw [12, 13, 14] (fun rv ov iv wr => ∃ (k : Nat) (K : Int), k ≤ n ∧ iv = .int .i64 K ∧ K = (k : Int) ∧ (∃ p1 c1, ov = .slice p1 k c1) ∧ (∃ p1 c1, rv = .slice p1 (k + 1) c1) ∧ Hid (RsAt w1 d t (X.take k) k ov rv wr) ∧ Hid (∀ x ∈ X.take k, faultQ acc x = 0)) (fun _ _ iv _ => ((n : Int) - intOf iv).toNat)
  case atStart => exact ⟨0, 0, by omega, rfl, rfl, ⟨_, _, rfl⟩, ⟨_, _, rfl⟩, unhide HR0, fun x hx => by simp at hx⟩
  case round =>
    clear hw1' hw2' hw3' D0 DD DG
    obtain ⟨wo, rfl⟩ : ∃ x, x = wr := ⟨wr, rfl⟩
    obtain ⟨k, K, hk, rfl, hK, ⟨po, co, rfl⟩, ⟨pr, cr, rfl⟩, HA, HPRE⟩ := hrel
    by_cases hlt : k < n
    · have hI : K < (n : Int) := by omega
      have hK0 : 0 ≤ K := by omega
      have hKt : K.toNat = k := by omega
      have hkX : k < X.length := by have := unhide HX; omega
      obtain ⟨b, o, ep, hb, hld⟩ := ((unhide HL).below (unhide HA).bel).ldQ hkX
      obtain ⟨x, hx⟩ : ∃ x, x = X[k] := ⟨_, rfl⟩
      rw [← hx] at hld
      have hxm : x ∈ X := by rw [hx]; exact List.getElem_mem hkX
      have hxok := unhide HOK x hxm
      have HTK : Hid (X.take (k + 1) = X.take k ++ [x]) := by show _ = _; rw [List.take_succ_eq_append_getElem hkX, ← hx]
      have HDR : Hid (X = X.take k ++ x :: X.drop (k + 1)) := by have := (List.take_append_drop k X).symm; rw [List.drop_eq_getElem_cons hkX, ← hx] at this; exact this
      subst ep
      obtain ⟨W1, hW1⟩ : ∃ W, W = wo.alloc (obQ x) := ⟨_, rfl⟩
      obtain ⟨cb, hcb⟩ : ∃ k, k = wo.heap.size := ⟨_, rfl⟩
      have b1 : Below wo.heap.size wo W1 := by rw [hW1]; exact bal (Below.refl _ _) _
      have hh1 : W1.heap[cb]? = some (obQ x) := by rw [hW1, hcb]; exact heap_new _ _
      have hA1 := (unhide HA).below b1
      have HBW : Hid (Below w.heap.size w W1) := (unhide HB01).trans (hA1.bel.mono (unhide HB01).size)
      have DK := hide (rkey_any x.key hxok.key W1)
      have D1 := hide (rIsD_any x.day W1)
      have D2 := hide (rIsD_any x.due W1)
      obtain ⟨kb, hkb⟩ : ∃ b, b = keyS x.key := ⟨_, rfl⟩
      obtain ⟨db, hdb⟩ : ∃ b, b = isDb x.day := ⟨_, rfl⟩
      obtain ⟨ub, hub⟩ : ∃ b, b = isDb x.due := ⟨_, rfl⟩
      rw [← hkb] at DK
      rw [← hdb] at D1
      rw [← hub] at D2
      have HG : Hid (goodQ x = (kb && db && ub && decide (1 ≤ x.amt))) := by show _ = _; rw [hkb, hdb, hub]; rfl
      have HERR : Hid (∀ e : Int, e ≠ 0 → faultQ acc x = e → ansS (d : Int) acc X [a0, a1, a2, a3, a4] t = ([], e)) := fun e he hf => by
        have hfst : fstQ (faultQ acc) X = e := by
          rw [unhide HDR, fstQ_pre (faultQ acc) _ _ (unhide HPRE), fstQ, hf, if_neg he]
        have e1 : errS (d : Int) acc X [a0, a1, a2, a3, a4] t = e := by
          unfold errS
          rw [if_neg (unhide HNB), if_neg (unhide HNM), hfst, if_pos he]
        unfold ansS
        rw [e1, if_neg he]
      obtain ⟨e0, e1, e2, e3, e4⟩ := q_cells hh1
      have HK := hide hK; have HXO := hide hxok; have HH1 := hide hh1; have HA1 := hide hA1
      have hW1' : wo.alloc (.cells #[.string x.key, .string x.acc, .int .i64 x.day, .int .i64 x.due, .int .i64 x.amt] 53) = W1 := by rw [hW1]; rfl
      unfold cvQ at hld
      rw [hcb] at e0 e1 e2 e3 e4
      have HCB := hide hcb
      have HDB := hide hdb; have HUB := hide hub
      clear hW1 b1 hkX hlt hK hkb hdb hub hxm hx hA1 hh1 hxok hcb HA
      by_cases ha : x.acc = acc
      · have haT : (x.acc.toList == acc.toList) = true := by rw [ha]; simp
        have HAC := hide ha
        clear ha
        cases kb with
        | false =>
          have HE := hide (unhide HERR 1 (by decide) (by unfold faultQ; rw [if_pos (unhide HAC), unhide HG]; rfl))
          go_wp2_with (first | (go_at_call 97; refine (unhide DK).mono ?_; rintro e wz ⟨rfl, hwz⟩; rw [hwz]; clear hwz wz) | (go_at_call 96; refine (unhide D1).mono ?_; rintro e wz ⟨rfl, hwz⟩; rw [hwz]; clear hwz wz))
          go_ret2
          exact ⟨by rw [unhide HE]; rfl, unhide HBW⟩
        | true =>
          cases db with
          | false =>
            have HE := hide (unhide HERR 1 (by decide) (by unfold faultQ; rw [if_pos (unhide HAC), unhide HG]; rfl))
            go_wp2_with (first | (go_at_call 97; refine (unhide DK).mono ?_; rintro e wz ⟨rfl, hwz⟩; rw [hwz]; clear hwz wz) | (go_at_call 96; refine (unhide D1).mono ?_; rintro e wz ⟨rfl, hwz⟩; rw [hwz]; clear hwz wz))
            go_ret2
            exact ⟨by rw [unhide HE]; rfl, unhide HBW⟩
          | true =>
            cases ub with
            | false =>
              have HE := hide (unhide HERR 1 (by decide) (by unfold faultQ; rw [if_pos (unhide HAC), unhide HG]; rfl))
              go_wp2_with (go_at_call 97; refine (unhide DK).mono ?_; rintro e wz ⟨rfl, hwz⟩; rw [hwz]; clear hwz wz)
              refine (unhide D1).mono ?_
              rintro e wz ⟨rfl, hwz⟩
              rw [hwz]
              clear hwz wz D1
              go_wp2_with fail
              refine (unhide D2).mono ?_
              rintro e wz ⟨rfl, hwz⟩
              rw [hwz]
              clear hwz wz
              go_wp2_with fail
              go_ret2
              exact ⟨by rw [unhide HE]; rfl, unhide HBW⟩
            | true =>
              by_cases hm : x.amt < 1
              · have HE := hide (unhide HERR 1 (by decide) (by unfold faultQ; rw [if_pos (unhide HAC), unhide HG, show decide (1 ≤ x.amt) = false from decide_eq_false (by omega)]; rfl))
                go_wp2_with (go_at_call 97; refine (unhide DK).mono ?_; rintro e wz ⟨rfl, hwz⟩; rw [hwz]; clear hwz wz)
                refine (unhide D1).mono ?_
                rintro e wz ⟨rfl, hwz⟩
                rw [hwz]
                clear hwz wz D1
                go_wp2_with fail
                refine (unhide D2).mono ?_
                rintro e wz ⟨rfl, hwz⟩
                rw [hwz]
                clear hwz wz
                go_wp2_with fail
                go_ret2
                exact ⟨by rw [unhide HE]; rfl, unhide HBW⟩
              · have HF0 : Hid (faultQ acc x = 0) := by
                  show _ = _
                  unfold faultQ
                  rw [if_pos (unhide HAC), unhide HG, show decide (1 ≤ x.amt) = true from decide_eq_true (by omega)]
                  rfl
                have HAL : Hid (isA x.amt) := ⟨by omega, (unhide HXO).amt.2⟩
                have HDY : Hid (isD x.day) := (isDb_iff _).1 (unhide HDB).symm
                have HDU : Hid (isD x.due) := (isDb_iff _).1 (unhide HUB).symm
                have hn1 := unhide HN
                by_cases hlt : x.due < t
                · have HOV : Hid (rowS d t x = [x.key.data.toList, dtx x.day, dtx x.due, txt x.amt d, Lib.itoa (t - x.due)]) := by
                    show _ = _
                    unfold rowS ovd
                    rw [if_neg (by omega)]
                  have hsub : t - x.due = ((t - x.due).toNat : Int) := by omega
                  have DNU : Hid (Calls Tryz.prog 98 #[.int .i64 (t - x.due)] W1 (TxtOut W1 (Lib.itoa (t - x.due)))) := by
                    show Calls _ _ _ _ _
                    rw [hsub]
                    exact rnum_any _ (by omega) (by have := htD.2; have := (unhide HDU).1; omega) W1
                  have hr1 : -9223372036854775808 ≤ t - x.due ∧ t - x.due ≤ 9223372036854775807 := by obtain ⟨u1, u2⟩ := htD; obtain ⟨u3, u4⟩ := unhide HDU; omega
                  obtain ⟨hr2, hr3⟩ := hr1
                  clear hsub
                  go_wp2_with (go_at_call 97; refine (unhide DK).mono ?_; rintro e wz ⟨rfl, hwz⟩; rw [hwz]; clear hwz wz)
                  refine (unhide D1).mono ?_
                  rintro e wz ⟨rfl, hwz⟩
                  rw [hwz]
                  clear hwz wz D1
                  go_wp2_with fail
                  refine (unhide D2).mono ?_
                  rintro e wz ⟨rfl, hwz⟩
                  rw [hwz]
                  clear hwz wz
                  go_wp2_with fail
                  refine (unhide DNU).mono ?_
                  rintro e W2 ⟨rfl, hb2⟩
                  have HZ := hide ((unhide HA1).below hb2)
                  have HHZ := hide ((hb2.block _ (Array.getElem?_eq_some_iff.1 (unhide HH1)).1).trans (unhide HH1))
                  obtain ⟨i0, i1, i2, i3, i4⟩ := q_cells (unhide HHZ)
                  rw [unhide HCB] at i0 i1 i2 i3 i4
                  obtain ⟨LT, hLT⟩ : ∃ q, q = Lib.itoa (t - x.due) := ⟨_, rfl⟩
                  rw [← hLT] at HOV ⊢
                  clear DNU hb2 hLT e0 e1 e2 e3 e4 hr2 hr3 hW1'
                  obtain ⟨po2, co2, w4, r1, k14, oo4, bl4⟩ := rs_amt (unhide HZ) x (by omega)
                  have hh4 := (k14.kept _ _ _ _ (unhide HHZ) (by decide)).trans (unhide HHZ)
                  have HCC : Hid (∀ Y, Below w4.heap.size w4 Y → Y.heap[cb]? = some (obQ x)) := fun Y hb => (hb.block _ (Array.getElem?_eq_some_iff.1 hh4).1).trans hh4
                  have HCE : Hid (∀ Y : World, Y.heap[cb]? = some (obQ x) → Y.cell? ⟨wo.heap.size, 0, none⟩ = some (.string x.key) ∧ Y.cell? ⟨wo.heap.size, 2, none⟩ = some (.int .i64 x.day) ∧ Y.cell? ⟨wo.heap.size, 3, none⟩ = some (.int .i64 x.due) ∧ Y.cell? ⟨wo.heap.size, 4, none⟩ = some (.int .i64 x.amt)) := fun Y h => by
                    obtain ⟨q0, q1, q2, q3, q4⟩ := q_cells h
                    rw [unhide HCB] at q0 q2 q3 q4
                    exact ⟨q0, q2, q3, q4⟩
                  have HROW : Hid (∀ (Y : World) (g : Nat), Below w4.heap.size w4 Y → RowIs Y ⟨some ⟨g, 0, none⟩, 5, 5⟩ (rowS d t x) → ∃ p9 c9 w9, (Builtin.append_ #[94, 94] 94 #[.slice pr (k + 1) cr, .slice (some ⟨Y.heap.size, 0, none⟩) 1 1]).run Tryz.prog (Y.alloc (.cells #[.slice (some ⟨g, 0, none⟩) 5 5] 93)) = .ok (.slice p9 (k + 2) c9) w9 ∧ RsAt w1 d t (X.take k ++ [x]) (k + 1) (.slice po2 (k + 1) co2) (.slice p9 (k + 2) c9) w9 ∧
                      (∀ (k : Nat) (ys : Array Value) (ty : TypeId) (f : Nat × Nat), Y.heap[k]? = some (Obj.cells ys ty f) → ty ≠ 93 → w9.heap[k]? = Y.heap[k]?)) := fun Y g hY hr => rs_row (unhide HZ) k14 oo4 bl4 hY hr (by omega)
                  have HPRE2 : Hid (∀ y ∈ X.take (k + 1), faultQ acc y = 0) := fun y hy => by
                    rw [unhide HTK, List.mem_append, List.mem_singleton] at hy
                    rcases hy with hy | rfl
                    · exact unhide HPRE y hy
                    · exact unhide HF0
                  have HR1 := hide r1
                  have HH4 := hide hh4
                  clear r1 k14 oo4 bl4 hh4
                  go_upto_region 19 with (at_builtin; refine wpList_append_run rfl _ _ 92 rfl _ _ _ _ rfl rfl (unhide HR1) ?_)
                  have hs0 := unhide HCE w4.drew (unhide HCC _ (below_drewN (Below.refl _ _) 1))
                  refine wp_region_last (n := 18) (S := fun W => W.cell? ⟨wo.heap.size, 0, none⟩ = some (.string x.key) ∧ W.cell? ⟨wo.heap.size, 2, none⟩ = some (.int .i64 x.day) ∧ W.cell? ⟨wo.heap.size, 3, none⟩ = some (.int .i64 x.due) ∧ W.cell? ⟨wo.heap.size, 4, none⟩ = some (.int .i64 x.amt)) (by kernel_rfl) hs0 (fun hHeld => ?_)
                  clear hs0
                  refine tkW 0 ?_; refine tkW 1 ?_
                  refine tkN 2 ?_ (hy := by (refine Or.inl ⟨by rfl, ?_⟩; intro W hSW; obtain ⟨hA, hB, hC, hD⟩ := hSW; go_simp; try with_reducible rfl))
                  refine tkW 3 ?_
                  refine tkN 4 ?_ (hy := by (refine Or.inl ⟨by rfl, ?_⟩; intro W hSW; obtain ⟨hA, hB, hC, hD⟩ := hSW; go_simp; try with_reducible rfl))
                  refine tkW 6 ?_
                  refine tkN 7 ?_ (hy := by (refine Or.inl ⟨by rfl, ?_⟩; intro W hSW; obtain ⟨hA, hB, hC, hD⟩ := hSW; go_simp; try with_reducible rfl))
                  refine tkW 9 ?_
                  refine tkN 10 ?_ (hy := by (refine Or.inl ⟨by rfl, ?_⟩; intro W hSW; obtain ⟨hA, hB, hC, hD⟩ := hSW; go_simp; try with_reducible rfl))
                  refine tkW 11 ?_; refine tkW 13 ?_
                  clear hHeld
                  have DA := hide (rdate_any x.day (unhide HDY) (w4.drewN 1))
                  refine wpAnyL_one (i := 5) (by kernel_rfl) rfl (fun KK hK => ?_)
                  go_simp
                  go_wp2_with (go_at_call 99; refine (unhide DA).mono ?_; rintro e w5 ⟨rfl, hb5⟩)
                  have hb45 : Below w4.heap.size w4 w5 := (below_drewN (Below.refl _ _) 1).trans hb5
                  have HB5 := hide hb45
                  refine hK.out _ _ (unhide HCE w5 (unhide HCC w5 hb45)) (fun hHeld => ?_)
                  clear hK KK hHeld hb5 hb45 DA
                  have DB := hide (rdate_any x.due (unhide HDU) w5)
                  refine wpAnyL_one (i := 8) (by kernel_rfl) rfl (fun KK hK => ?_)
                  go_simp
                  go_wp2_with (go_at_call 99; refine (unhide DB).mono ?_; rintro e w6 ⟨rfl, hb6⟩)
                  have hb46 : Below w4.heap.size w4 w6 := (unhide HB5).trans (hb6.mono (unhide HB5).size)
                  have HB6 := hide hb46
                  refine hK.out _ _ (unhide HCE w6 (unhide HCC w6 hb46)) (fun hHeld => ?_)
                  clear hK KK hHeld hb6 hb46 DB
                  have DC := hide (rmoney_any x.amt d (unhide HAL) hd' w6)
                  refine wpAnyL_one (i := 12) (by kernel_rfl) rfl (fun KK hK => ?_)
                  go_simp
                  go_wp2_with (go_at_call 54; refine (unhide DC).mono ?_; rintro e w7 ⟨rfl, hb7⟩)
                  have hb47 : Below w4.heap.size w4 w7 := (unhide HB6).trans (hb7.mono (unhide HB6).size)
                  have HB7 := hide hb47
                  refine hK.out _ _ (unhide HCE w7 (unhide HCC w7 hb47)) (fun hHeld => ?_)
                  clear hK KK hHeld hb7 hb47 DC
                  obtain ⟨w8, hw8⟩ : ∃ W, W = w7.alloc (.cells #[.string x.key, .string (txB (dtx x.day)), .string (txB (dtx x.due)), .string (txB (txt x.amt d)), .string (txB LT)] 9) := ⟨_, rfl⟩
                  have b78 : Below w7.heap.size w7 w8 := by rw [hw8]; exact bal (Below.refl _ _) _
                  have hb48 : Below w4.heap.size w4 w8 := (unhide HB7).trans (b78.mono (unhide HB7).size)
                  have hri : RowIs w8 ⟨some ⟨w7.heap.size, 0, none⟩, 5, 5⟩ (rowS d t x) := by
                    rw [unhide HOV, hw8]
                    exact litL w7 [x.key.data.toList, dtx x.day, dtx x.due, txt x.amt d, LT]
                  obtain ⟨pr9, cr9, w9, r9, hs9, hk9⟩ := unhide HROW w8 w7.heap.size hb48 hri
                  have HS8 := hide (unhide HCE w8 (unhide HCC w8 hb48))
                  have HH8 := hide (unhide HCC w8 hb48)
                  have HS9 : Hid (w9.heap[cb]? = some (obQ x)) := (hk9 _ _ _ _ (unhide HH8) (by decide)).trans (unhide HH8)
                  have HC8 : Hid (∀ O, (w8.alloc O).heap[cb]? = some (obQ x)) := fun O => ((bal (Below.refl _ _) O : Below w8.heap.size w8 (w8.alloc O)).block _ (Array.getElem?_eq_some_iff.1 (unhide HH8)).1).trans (unhide HH8)
                  have HR9 := hide r9
                  have HNN : Hid (RsAt w1 d t (X.take (k + 1)) (k + 1) (.slice po2 (k + 1) co2) (.slice pr9 (k + 2) cr9) w9) := by rw [unhide HTK]; exact hs9
                  have HW8 := hide hw8
                  clear hw8 b78 hb48 hri r9 hs9 hk9
                  refine wpAnyL_one (i := 14) (by kernel_rfl) rfl (fun KK hK => ?_)
                  go_simp
                  refine hK.out _ _ (by have h := unhide HS8; rw [unhide HW8] at h; exact h) (fun hHeld => ?_)
                  clear hK KK hHeld
                  rw [← unhide HW8]
                  refine wpAnyL_one (i := 15) (by kernel_rfl) rfl (fun KK hK => ?_)
                  go_simp
                  refine hK.out _ _ (unhide HCE _ (unhide HC8 _)) (fun hHeld => ?_)
                  clear hK KK hHeld
                  refine wpAnyL_one (i := 16) (by kernel_rfl) rfl (fun KK hK => ?_)
                  refine step_append_run _ (by rfl) _ _ 94 (by rfl) _ _ _ _ (by rfl) (by rfl) (unhide HR9) ?_
                  refine hK.out _ _ (unhide HCE w9 (unhide HS9)) (fun hHeld => ?_)
                  clear hK KK
                  refine tkW 17 ?_
                  clear hHeld
                  refine wpAnyL_done (by kernel_rfl) ?_
                  go_wp2_with fail
                  exact ⟨⟨k + 1, K + 1, by have := unhide HK; omega, by go_num, by have := unhide HK; omega, ⟨_, _, rfl⟩, ⟨_, _, rfl⟩, unhide HNN, unhide HPRE2⟩, by have := unhide HK; simp [intOf]; omega⟩
                · have hle : t ≤ x.due := by omega
                  have HOV : Hid (rowS d t x = [x.key.data.toList, dtx x.day, dtx x.due, txt x.amt d, []]) := by
                    show _ = _
                    unfold rowS ovd
                    rw [if_pos hle]
                  have HZ := HA1
                  have HHZ := HH1
                  obtain ⟨po2, co2, w4, r1, k14, oo4, bl4⟩ := rs_amt (unhide HZ) x (by omega)
                  have hh4 := (k14.kept _ _ _ _ (unhide HHZ) (by decide)).trans (unhide HHZ)
                  have HCC : Hid (∀ Y, Below w4.heap.size w4 Y → Y.heap[cb]? = some (obQ x)) := fun Y hb => (hb.block _ (Array.getElem?_eq_some_iff.1 hh4).1).trans hh4
                  have HCE : Hid (∀ Y : World, Y.heap[cb]? = some (obQ x) → Y.cell? ⟨wo.heap.size, 0, none⟩ = some (.string x.key) ∧ Y.cell? ⟨wo.heap.size, 2, none⟩ = some (.int .i64 x.day) ∧ Y.cell? ⟨wo.heap.size, 3, none⟩ = some (.int .i64 x.due) ∧ Y.cell? ⟨wo.heap.size, 4, none⟩ = some (.int .i64 x.amt)) := fun Y h => by
                    obtain ⟨q0, q1, q2, q3, q4⟩ := q_cells h
                    rw [unhide HCB] at q0 q2 q3 q4
                    exact ⟨q0, q2, q3, q4⟩
                  have HROW : Hid (∀ (Y : World) (g : Nat), Below w4.heap.size w4 Y → RowIs Y ⟨some ⟨g, 0, none⟩, 5, 5⟩ (rowS d t x) → ∃ p9 c9 w9, (Builtin.append_ #[94, 94] 94 #[.slice pr (k + 1) cr, .slice (some ⟨Y.heap.size, 0, none⟩) 1 1]).run Tryz.prog (Y.alloc (.cells #[.slice (some ⟨g, 0, none⟩) 5 5] 93)) = .ok (.slice p9 (k + 2) c9) w9 ∧ RsAt w1 d t (X.take k ++ [x]) (k + 1) (.slice po2 (k + 1) co2) (.slice p9 (k + 2) c9) w9 ∧
                      (∀ (k : Nat) (ys : Array Value) (ty : TypeId) (f : Nat × Nat), Y.heap[k]? = some (Obj.cells ys ty f) → ty ≠ 93 → w9.heap[k]? = Y.heap[k]?)) := fun Y g hY hr => rs_row (unhide HZ) k14 oo4 bl4 hY hr (by omega)
                  have HPRE2 : Hid (∀ y ∈ X.take (k + 1), faultQ acc y = 0) := fun y hy => by
                    rw [unhide HTK, List.mem_append, List.mem_singleton] at hy
                    rcases hy with hy | rfl
                    · exact unhide HPRE y hy
                    · exact unhide HF0
                  have HR1 := hide r1
                  have HH4 := hide hh4
                  clear r1 k14 oo4 bl4 hh4
                  go_wp2_with (go_at_call 97; refine (unhide DK).mono ?_; rintro e wz ⟨rfl, hwz⟩; rw [hwz]; clear hwz wz)
                  refine (unhide D1).mono ?_
                  rintro e wz ⟨rfl, hwz⟩
                  rw [hwz]
                  clear hwz wz D1
                  go_wp2_with fail
                  refine (unhide D2).mono ?_
                  rintro e wz ⟨rfl, hwz⟩
                  rw [hwz]
                  clear hwz wz
                  go_upto_region 19 with (at_builtin; refine wpList_append_run rfl _ _ 92 rfl _ _ _ _ rfl rfl (unhide HR1) ?_)
                  have hs0 := unhide HCE w4.drew (unhide HCC _ (below_drewN (Below.refl _ _) 1))
                  refine wp_region_last (n := 18) (S := fun W => W.cell? ⟨wo.heap.size, 0, none⟩ = some (.string x.key) ∧ W.cell? ⟨wo.heap.size, 2, none⟩ = some (.int .i64 x.day) ∧ W.cell? ⟨wo.heap.size, 3, none⟩ = some (.int .i64 x.due) ∧ W.cell? ⟨wo.heap.size, 4, none⟩ = some (.int .i64 x.amt)) (by kernel_rfl) hs0 (fun hHeld => ?_)
                  clear hs0
                  refine tkW 0 ?_; refine tkW 1 ?_
                  refine tkN 2 ?_ (hy := by (refine Or.inl ⟨by rfl, ?_⟩; intro W hSW; obtain ⟨hA, hB, hC, hD⟩ := hSW; go_simp; try with_reducible rfl))
                  refine tkW 3 ?_
                  refine tkN 4 ?_ (hy := by (refine Or.inl ⟨by rfl, ?_⟩; intro W hSW; obtain ⟨hA, hB, hC, hD⟩ := hSW; go_simp; try with_reducible rfl))
                  refine tkW 6 ?_
                  refine tkN 7 ?_ (hy := by (refine Or.inl ⟨by rfl, ?_⟩; intro W hSW; obtain ⟨hA, hB, hC, hD⟩ := hSW; go_simp; try with_reducible rfl))
                  refine tkW 9 ?_
                  refine tkN 10 ?_ (hy := by (refine Or.inl ⟨by rfl, ?_⟩; intro W hSW; obtain ⟨hA, hB, hC, hD⟩ := hSW; go_simp; try with_reducible rfl))
                  refine tkW 11 ?_; refine tkW 13 ?_
                  clear hHeld
                  have DA := hide (rdate_any x.day (unhide HDY) (w4.drewN 1))
                  refine wpAnyL_one (i := 5) (by kernel_rfl) rfl (fun KK hK => ?_)
                  go_simp
                  go_wp2_with (go_at_call 99; refine (unhide DA).mono ?_; rintro e w5 ⟨rfl, hb5⟩)
                  have hb45 : Below w4.heap.size w4 w5 := (below_drewN (Below.refl _ _) 1).trans hb5
                  have HB5 := hide hb45
                  refine hK.out _ _ (unhide HCE w5 (unhide HCC w5 hb45)) (fun hHeld => ?_)
                  clear hK KK hHeld hb5 hb45 DA
                  have DB := hide (rdate_any x.due (unhide HDU) w5)
                  refine wpAnyL_one (i := 8) (by kernel_rfl) rfl (fun KK hK => ?_)
                  go_simp
                  go_wp2_with (go_at_call 99; refine (unhide DB).mono ?_; rintro e w6 ⟨rfl, hb6⟩)
                  have hb46 : Below w4.heap.size w4 w6 := (unhide HB5).trans (hb6.mono (unhide HB5).size)
                  have HB6 := hide hb46
                  refine hK.out _ _ (unhide HCE w6 (unhide HCC w6 hb46)) (fun hHeld => ?_)
                  clear hK KK hHeld hb6 hb46 DB
                  have DC := hide (rmoney_any x.amt d (unhide HAL) hd' w6)
                  refine wpAnyL_one (i := 12) (by kernel_rfl) rfl (fun KK hK => ?_)
                  go_simp
                  go_wp2_with (go_at_call 54; refine (unhide DC).mono ?_; rintro e w7 ⟨rfl, hb7⟩)
                  have hb47 : Below w4.heap.size w4 w7 := (unhide HB6).trans (hb7.mono (unhide HB6).size)
                  have HB7 := hide hb47
                  refine hK.out _ _ (unhide HCE w7 (unhide HCC w7 hb47)) (fun hHeld => ?_)
                  clear hK KK hHeld hb7 hb47 DC
                  obtain ⟨w8, hw8⟩ : ∃ W, W = w7.alloc (.cells #[.string x.key, .string (txB (dtx x.day)), .string (txB (dtx x.due)), .string (txB (txt x.amt d)), .string (⟨#[]⟩)] 9) := ⟨_, rfl⟩
                  have b78 : Below w7.heap.size w7 w8 := by rw [hw8]; exact bal (Below.refl _ _) _
                  have hb48 : Below w4.heap.size w4 w8 := (unhide HB7).trans (b78.mono (unhide HB7).size)
                  have hri : RowIs w8 ⟨some ⟨w7.heap.size, 0, none⟩, 5, 5⟩ (rowS d t x) := by
                    rw [unhide HOV, hw8]
                    exact litL w7 [x.key.data.toList, dtx x.day, dtx x.due, txt x.amt d, []]
                  obtain ⟨pr9, cr9, w9, r9, hs9, hk9⟩ := unhide HROW w8 w7.heap.size hb48 hri
                  have HS8 := hide (unhide HCE w8 (unhide HCC w8 hb48))
                  have HH8 := hide (unhide HCC w8 hb48)
                  have HS9 : Hid (w9.heap[cb]? = some (obQ x)) := (hk9 _ _ _ _ (unhide HH8) (by decide)).trans (unhide HH8)
                  have HC8 : Hid (∀ O, (w8.alloc O).heap[cb]? = some (obQ x)) := fun O => ((bal (Below.refl _ _) O : Below w8.heap.size w8 (w8.alloc O)).block _ (Array.getElem?_eq_some_iff.1 (unhide HH8)).1).trans (unhide HH8)
                  have HR9 := hide r9
                  have HNN : Hid (RsAt w1 d t (X.take (k + 1)) (k + 1) (.slice po2 (k + 1) co2) (.slice pr9 (k + 2) cr9) w9) := by rw [unhide HTK]; exact hs9
                  have HW8 := hide hw8
                  clear hw8 b78 hb48 hri r9 hs9 hk9
                  refine wpAnyL_one (i := 14) (by kernel_rfl) rfl (fun KK hK => ?_)
                  go_simp
                  refine hK.out _ _ (by have h := unhide HS8; rw [unhide HW8] at h; exact h) (fun hHeld => ?_)
                  clear hK KK hHeld
                  rw [← unhide HW8]
                  refine wpAnyL_one (i := 15) (by kernel_rfl) rfl (fun KK hK => ?_)
                  go_simp
                  refine hK.out _ _ (unhide HCE _ (unhide HC8 _)) (fun hHeld => ?_)
                  clear hK KK hHeld
                  refine wpAnyL_one (i := 16) (by kernel_rfl) rfl (fun KK hK => ?_)
                  refine step_append_run _ (by rfl) _ _ 94 (by rfl) _ _ _ _ (by rfl) (by rfl) (unhide HR9) ?_
                  refine hK.out _ _ (unhide HCE w9 (unhide HS9)) (fun hHeld => ?_)
                  clear hK KK
                  refine tkW 17 ?_
                  clear hHeld
                  refine wpAnyL_done (by kernel_rfl) ?_
                  go_wp2_with fail
                  exact ⟨⟨k + 1, K + 1, by have := unhide HK; omega, by go_num, by have := unhide HK; omega, ⟨_, _, rfl⟩, ⟨_, _, rfl⟩, unhide HNN, unhide HPRE2⟩, by have := unhide HK; simp [intOf]; omega⟩
      · have haF := ba_ne ha
        have HE := hide (unhide HERR 76 (by decide) (if_neg ha))
        clear ha
        go_wp2_with fail
        go_ret2
        exact ⟨by rw [unhide HE]; rfl, unhide HBW⟩
    · have hI : ¬ K < (n : Int) := by omega
      have ek : X.take k = X := List.take_of_length_le (by have := unhide HX; omega)
      have hA := unhide HA
      have hpre := unhide HPRE
      rw [ek] at hA hpre
      have HFI := hide (qfine_all (unhide HOK) (fstQ_all hpre))
      have HF0 : Hid (fstQ (faultQ acc) X = 0) := fstQ_all hpre
      have HAT := hide hA
      have hkX : k ≤ 1048576 := by have := unhide HN; omega
      obtain ⟨wt, hwt⟩ : ∃ W, W = wo.alloc (litB ttA) := ⟨_, rfl⟩
      have bt : Below wo.heap.size wo wt := by rw [hwt]; exact bal (Below.refl _ _) _
      have hht : wt.heap[wo.heap.size]? = some (litB ttA) := by rw [hwt]; exact heap_new _ _
      have HTT : Hid (∀ Y, Below wt.heap.size wt Y → ∀ j, j < 5 → Y.cell? ⟨wo.heap.size, j, none⟩ = some (.string (txB (ttA.getD j []))) ∧ Y.cell? ⟨w.heap.size, j, none⟩ = some (.int .i64 ([a0, a1, a2, a3, a4].getD j 0))) := fun Y hb j hj => by
        have h1 := (hb.block _ (Array.getElem?_eq_some_iff.1 hht).1).trans hht
        have h2 := unhide HC1 Y ((unhide HAT).bel.trans ((bt.trans (hb.mono bt.size)).mono (unhide HAT).bel.size))
        refine ⟨?_, ?_⟩
        · unfold litB at h1
          rw [cell_at h1]
          have h5 : j = 0 ∨ j = 1 ∨ j = 2 ∨ j = 3 ∨ j = 4 := by omega
          rcases h5 with rfl | rfl | rfl | rfl | rfl <;> rfl
        · have := age_cell h2 j hj
          rwa [Nat.zero_add] at this
      obtain ⟨AL, hAL⟩ : ∃ q, q = [a0, a1, a2, a3, a4] := ⟨_, rfl⟩
      obtain ⟨RL, hRL⟩ : ∃ q, q = (agL a0 a1 a2 a3 a4).map (ag2 d) := ⟨_, rfl⟩
      have HJJ : Hid (∀ j, j < 5 → ∃ z, AL[j]? = some z ∧ [a0, a1, a2, a3, a4].getD j 0 = z ∧ RL[j]? = some [ttA.getD j [], txt z d] ∧ z ∈ [a0, a1, a2, a3, a4]) := fun j hj => by
        rw [hAL, hRL]
        have h5 : j = 0 ∨ j = 1 ∨ j = 2 ∨ j = 3 ∨ j = 4 := by omega
        rcases h5 with rfl | rfl | rfl | rfl | rfl <;> exact ⟨_, rfl, rfl, rfl, by simp⟩
      have HBT : Hid (Below w.heap.size w wt) := (unhide HB01).trans (((unhide HAT).bel.trans (bt.mono (unhide HAT).bel.size)).mono (unhide HB01).size)
      have HBO := hide bt
      have hwt' : wo.alloc (.cells #[.string ⟨#[78, 111, 116, 32, 100, 117, 101]⟩, .string ⟨#[49, 32, 116, 111, 32, 51, 48, 32, 100, 97, 121, 115]⟩, .string ⟨#[51, 49, 32, 116, 111, 32, 54, 48, 32, 100, 97, 121, 115]⟩, .string ⟨#[54, 49, 32, 116, 111, 32, 57, 48, 32, 100, 97, 121, 115]⟩, .string ⟨#[77, 111, 114, 101, 32, 116, 104, 97, 110, 32, 57, 48, 32, 100, 97, 121, 115]⟩] 9) = wt := hwt.symm
      have HAL := hide hAL; have HRL := hide hRL
      clear hA hpre hwt bt hht HA HPRE hAL hRL hK hk
      go_wp2_with fail
      go_loopw [18, 19, 20] (fun sv av iv wr => ∃ (j : Nat) (J : Int), j ≤ 5 ∧ iv = .int .i64 J ∧ J = (j : Int) ∧ (∃ p1 c1, sv = .slice p1 j c1) ∧ (∃ p1 c1, av = .slice p1 j c1) ∧ Hid (R2At wt RL AL j sv av wr) ∧ Hid (∀ z ∈ AL.take j, 0 ≤ z)) (fun _ _ iv _ => ((5 : Int) - intOf iv).toNat)
      case atStart => exact ⟨0, 0, by omega, rfl, rfl, ⟨_, _, rfl⟩, ⟨_, _, rfl⟩, R2At.start wt RL AL, fun z hz => by simp at hz⟩
      case round =>
        clear hwt'
        obtain ⟨wq, rfl⟩ : ∃ x, x = wr := ⟨wr, rfl⟩
        obtain ⟨j, J, hj, rfl, hJ, ⟨p3, c3, rfl⟩, ⟨p4, c4, rfl⟩, HA2, HP2⟩ := hrel
        by_cases hlt : j < 5
        · have hI2 : J < 5 := by omega
          have hJ0 : 0 ≤ J := by omega
          have hJt : J.toNat = j := by omega
          obtain ⟨z, hz1, hz2, hz3, hz4⟩ := unhide HJJ j hlt
          have HZZ : Hid (∀ Y, Below wt.heap.size wt Y → Y.cell? ⟨wo.heap.size, j, none⟩ = some (.string (txB (ttA.getD j []))) ∧ Y.cell? ⟨w.heap.size, j, none⟩ = some (.int .i64 z)) := fun Y hb => by
            have := unhide HTT Y hb j hlt
            rwa [hz2] at this
          obtain ⟨c0, c1⟩ := unhide HZZ wq (unhide HA2).bel
          have HZF : Hid (fits64 z) := unhide HAF z hz4
          obtain ⟨TT, hTT⟩ : ∃ q, q = ttA.getD j [] := ⟨_, rfl⟩
          rw [← hTT] at hz3 c0 HZZ
          by_cases hneg : z < 0
          · have HE : Hid (ansS (d : Int) acc X [a0, a1, a2, a3, a4] t = ([], 10)) := by
              have e : errS (d : Int) acc X [a0, a1, a2, a3, a4] t = 10 := by
                unfold errS
                have := min_le z [a0, a1, a2, a3, a4] hz4
                rw [if_neg (unhide HNB), if_neg (unhide HNM), if_neg (by rw [unhide HF0]; simp), if_pos (by omega)]
              show _ = _
              unfold ansS
              rw [e, if_neg (by decide)]
            have HBE : Hid (Below w.heap.size w wq) := (unhide HBT).trans ((unhide HA2).bel.mono (unhide HBT).size)
            clear hz1 hz2 hz3 hz4 hTT hlt hJ
            go_wp2_with fail
            go_ret2
            exact ⟨by rw [unhide HE]; rfl, unhide HBE⟩
          · have HZA : Hid (isA z) := ⟨by omega, (unhide HZF).2⟩
            have HZN : Hid (0 ≤ z) := by show 0 ≤ z; omega
            obtain ⟨po2, co2, w4, r1, k14, oo4, bl4⟩ := r2_amt (unhide HA2) hz1 (by omega)
            have HC4 : Hid (∀ Y, Below w4.heap.size w4 Y → Y.cell? ⟨wo.heap.size, j, none⟩ = some (.string (txB TT)) ∧ Y.cell? ⟨w.heap.size, j, none⟩ = some (.int .i64 z)) := fun Y hb => unhide HZZ Y (bl4.trans (hb.mono bl4.size))
            have HROW : Hid (∀ (Y : World) (g : Nat), Below w4.heap.size w4 Y → RowIs Y ⟨some ⟨g, 0, none⟩, 2, 2⟩ [TT, txt z d] → ∃ p9 c9 w9, (Builtin.append_ #[94, 94] 94 #[.slice p3 j c3, .slice (some ⟨Y.heap.size, 0, none⟩) 1 1]).run Tryz.prog (Y.alloc (.cells #[.slice (some ⟨g, 0, none⟩) 2 2] 93)) = .ok (.slice p9 (j + 1) c9) w9 ∧ R2At wt RL AL (j + 1) (.slice p9 (j + 1) c9) (.slice po2 (j + 1) co2) w9 ∧
                (∀ (k : Nat) (ys : Array Value) (ty : TypeId) (f : Nat × Nat), Y.heap[k]? = some (Obj.cells ys ty f) → ty ≠ 93 → w9.heap[k]? = Y.heap[k]?)) := fun Y g hY hr => r2_row (unhide HA2) k14 oo4 bl4 hY hr hz3 (by omega)
            have HP3 : Hid (∀ y ∈ AL.take (j + 1), 0 ≤ y) := fun y hy => by
              rw [take_up hz1, List.mem_append, List.mem_singleton] at hy
              rcases hy with hy | rfl
              · exact unhide HP2 y hy
              · exact unhide HZN
            have HR1 := hide r1
            have HJ := hide hJ
            have HTTW := HTT
            clear r1 k14 oo4 bl4 hz1 hz2 hz3 hz4 hTT hJ
            go_upto_region 29 with (at_builtin; refine wpList_append_run rfl _ _ 92 rfl _ _ _ _ rfl rfl (unhide HR1) ?_)
            have hs0 := unhide HC4 w4.drew (below_drewN (Below.refl _ _) 1)
            refine wp_region_last (n := 14) (S := fun W => W.cell? ⟨wo.heap.size, j, none⟩ = some (.string (txB TT)) ∧ W.cell? ⟨w.heap.size, j, none⟩ = some (.int .i64 z)) (by kernel_rfl) hs0 (fun hHeld => ?_)
            clear hs0
            refine tkW 0 ?_; refine tkW 1 ?_; refine tkW 2 ?_; refine tkW 3 ?_
            refine tkN 4 ?_ (hy := by (refine Or.inl ⟨by rfl, ?_⟩; intro W hSW; obtain ⟨hA, hB⟩ := hSW; go_simp; try with_reducible rfl))
            refine tkW 5 ?_; refine tkW 6 ?_
            refine tkN 7 ?_ (hy := by (refine Or.inl ⟨by rfl, ?_⟩; intro W hSW; obtain ⟨hA, hB⟩ := hSW; go_simp; try with_reducible rfl))
            refine tkW 8 ?_
            clear hHeld
            have DC := hide (rmoney_any z d (unhide HZA) hd' (w4.drewN 1))
            refine wpAnyL_one (i := 9) (by kernel_rfl) rfl (fun KK hK => ?_)
            go_simp
            go_wp2_with (go_at_call 54; refine (unhide DC).mono ?_; rintro e w7 ⟨rfl, hb7⟩)
            have hb47 : Below w4.heap.size w4 w7 := (below_drewN (Below.refl _ _) 1).trans hb7
            have HB7 := hide hb47
            refine hK.out _ _ (unhide HC4 w7 hb47) (fun hHeld => ?_)
            clear hK KK hHeld hb7 hb47 DC
            obtain ⟨w8, hw8⟩ : ∃ W, W = w7.alloc (.cells #[.string (txB TT), .string (txB (txt z d))] 9) := ⟨_, rfl⟩
            have b78 : Below w7.heap.size w7 w8 := by rw [hw8]; exact bal (Below.refl _ _) _
            have hb48 : Below w4.heap.size w4 w8 := (unhide HB7).trans (b78.mono (unhide HB7).size)
            have hri : RowIs w8 ⟨some ⟨w7.heap.size, 0, none⟩, 2, 2⟩ [TT, txt z d] := by
              rw [hw8]
              exact litL w7 [TT, txt z d]
            obtain ⟨pr9, cr9, w9, r9, hs9, hk9⟩ := unhide HROW w8 w7.heap.size hb48 hri
            have HS8 := hide (unhide HC4 w8 hb48)
            have HS9 : Hid (∀ O, (w8.alloc O).cell? ⟨wo.heap.size, j, none⟩ = some (.string (txB TT)) ∧ (w8.alloc O).cell? ⟨w.heap.size, j, none⟩ = some (.int .i64 z)) := fun O => unhide HC4 _ (hb48.trans ((bal (Below.refl _ _) O : Below w8.heap.size w8 (w8.alloc O)).mono hb48.size))
            have HC9 : Hid (∀ k : Nat, w9.heap[k]? = w8.heap[k]? → True) := fun _ _ => trivial
            have HT9 : Hid (w9.cell? ⟨wo.heap.size, j, none⟩ = some (.string (txB TT)) ∧ w9.cell? ⟨w.heap.size, j, none⟩ = some (.int .i64 z)) := unhide HZZ w9 hs9.bel
            have HR9 := hide r9
            have HNN := hide hs9
            have HW8 := hide hw8
            clear hw8 b78 hb48 hri r9 hs9 hk9 HC9
            refine wpAnyL_one (i := 10) (by kernel_rfl) rfl (fun KK hK => ?_)
            go_simp
            refine hK.out _ _ (by have h := unhide HS8; rw [unhide HW8] at h; exact h) (fun hHeld => ?_)
            clear hK KK hHeld
            rw [← unhide HW8]
            refine wpAnyL_one (i := 11) (by kernel_rfl) rfl (fun KK hK => ?_)
            go_simp
            refine hK.out _ _ (unhide HS9 _) (fun hHeld => ?_)
            clear hK KK hHeld
            refine wpAnyL_one (i := 12) (by kernel_rfl) rfl (fun KK hK => ?_)
            refine step_append_run _ (by rfl) _ _ 94 (by rfl) _ _ _ _ (by rfl) (by rfl) (unhide HR9) ?_
            refine hK.out _ _ (unhide HT9) (fun hHeld => ?_)
            clear hK KK
            refine tkW 13 ?_
            clear hHeld
            refine wpAnyL_done (by kernel_rfl) ?_
            go_wp2_with fail
            exact ⟨⟨j + 1, J + 1, by omega, by go_num, by have := unhide HJ; omega, ⟨_, _, rfl⟩, ⟨_, _, rfl⟩, unhide HNN, unhide HP3⟩, by have := unhide HJ; simp [intOf]; omega⟩
        · have hI2 : ¬ J < 5 := by omega
          have ej : j = 5 := by omega
          subst ej
          have h2 := unhide HA2
          have lA : AL.length = 5 := by rw [unhide HAL]; rfl
          have lR : RL.length = 5 := by rw [unhide HRL]; rfl
          have eA : AL.take 5 = AL := List.take_of_length_le (by omega)
          have eR : RL.take 5 = RL := List.take_of_length_le (by omega)
          have hoa := h2.oa
          have hrl2 := h2.rl
          have hp2 := unhide HP2
          rw [eA] at hoa hp2
          rw [eR] at hrl2
          have bq : Below wo.heap.size wo wq := (unhide HBO).trans (h2.bel.mono (unhide HBO).size)
          have hxl : (amtL X).length = k := by rw [← (unhide HAT).len]; simp [amtL]
          have D1 := rsumL (w := w) hxl (own_below (unhide HAT).oo bq) (fun z hz => by
            obtain ⟨x, hx, rfl⟩ := List.mem_map.1 hz
            have h1 := (unhide HFI x hx).amt
            exact ⟨by omega, h1.2⟩) (by omega)
          have D2 : Hid (∀ W, Below wq.heap.size wq W → Calls Tryz.prog 55 #[.slice p4 5 c4] W (TotOut W AL)) := fun W hb => rsumL (w := w) lA (own_below hoa hb) (fun z hz => by rw [unhide HAL] at hz; exact unhide HAF z hz) (by omega)
          have hs1 := sumL_err (amtL_pos (unhide HFI))
          have hs2 := sumL_err hp2
          obtain ⟨a, ha⟩ : ∃ a, a = (sumL (amtL X)).1 := ⟨_, rfl⟩
          obtain ⟨ea, hea⟩ : ∃ a, a = (sumL (amtL X)).2 := ⟨_, rfl⟩
          obtain ⟨b, hb⟩ : ∃ a, a = (sumL AL).1 := ⟨_, rfl⟩
          obtain ⟨eb, heb⟩ : ∃ a, a = (sumL AL).2 := ⟨_, rfl⟩
          unfold TotOut at D1 D2
          rw [← ha, ← hea] at D1
          rw [← hb, ← heb] at D2
          rw [← hea] at hs1
          rw [← heb] at hs2
          have HERR : Hid (errS (d : Int) acc X [a0, a1, a2, a3, a4] t = orE ea eb) := by
            show _ = _
            have := min_pos hp2
            rw [unhide HAL] at this
            unfold errS
            rw [if_neg (unhide HNB), if_neg (unhide HNM), if_neg (by rw [unhide HF0]; simp), if_neg (by omega), hea, heb, unhide HAL]
          have HA0 := hide ha; have HEA := hide hea; have HB0 := hide hb; have HEB := hide heb; have HBQ := hide bq; have H2 := hide h2.bel; have HR2 := hide hrl2; have D1 := hide D1
          have HLR := hide lR
          clear h2 lA lR eA eR hoa hrl2 hp2 bq hxl ha hea hb heb hJ HA2 HP2
          go_wp2_with fail
          refine (unhide D1).mono ?_
          rintro e y1 ⟨rfl, hy1⟩
          have HY1 := hide hy1
          have d2 := hide (unhide D2 y1 hy1)
          clear hy1 D1 D2
          go_wp2_with fail
          refine (unhide d2).mono ?_
          rintro e y2 ⟨rfl, hy2⟩
          have HY2 : Hid (Below wq.heap.size wq y2) := (unhide HY1).trans (hy2.mono (unhide HY1).size)
          have HYW : Hid (Below w.heap.size w y2) := (unhide HBT).trans (((unhide H2).trans ((unhide HY2).mono (unhide H2).size)).mono (unhide HBT).size)
          clear hy2 d2 HY1
          rcases hs1 with he1 | he1
          · subst he1
            rcases hs2 with he2 | he2
            · subst he2
              have hAA : isA a := by rw [unhide HA0]; exact sumL_fits (unhide HEA).symm
              have hBA : isA b := by rw [unhide HB0]; exact sumL_fits (unhide HEB).symm
              have HANS : Hid (ansS (d : Int) acc X [a0, a1, a2, a3, a4] t = (staT d acc X [a0, a1, a2, a3, a4] t, 0)) := by
                show _ = _
                unfold ansS
                rw [unhide HERR, if_pos (show orE 0 0 = 0 from rfl)]
                rfl
              have D3 := hide (rmoney_any a d hAA hd' y2)
              have D4 : Hid (∀ W, Calls Tryz.prog 54 #[.int .i64 b, .int .i64 (d : Int)] W (TxtOut W (txt b d))) := fun W => rmoney_any b d hBA hd' W
              clear hAA hBA
              go_wp2_with fail
              refine (unhide D3).mono ?_
              rintro e y3 ⟨rfl, hy3⟩
              obtain ⟨y4, hy4e⟩ : ∃ W, W = y3.alloc (litB (sumS d a)) := ⟨_, rfl⟩
              have b34 : Below y3.heap.size y3 y4 := by rw [hy4e]; exact bal (Below.refl _ _) _
              have bq4 : Below wq.heap.size wq y4 := ((unhide HY2).trans (hy3.mono (unhide HY2).size)).trans (b34.mono ((unhide HY2).trans (hy3.mono (unhide HY2).size)).size)
              have bo4 : Below wo.heap.size wo y4 := (unhide HBQ).trans (bq4.mono (unhide HBQ).size)
              have hri4 : RowIs y4 ⟨some ⟨y3.heap.size, 0, none⟩, 4, 4⟩ (sumS d a) := by rw [hy4e]; exact litL y3 (sumS d a)
              have hl4 : ([hdS] ++ X.map (rowS d t)).length = k + 1 := by
                have := (unhide HAT).len
                simp
                omega
              have hB14 : w1.heap.size ≤ y4.heap.size := Nat.le_trans (unhide HAT).bel.size bo4.size
              obtain ⟨p5, c5, y5, r5, rl5, b5, kk5, q5, u5⟩ := ((unhide HAT).rl.below bo4).app2 hB14 hri4 (by rw [hl4]; omega)
              rw [hl4] at r5 rl5 q5
              have hown1 : ∀ g, (Value.slice pr (k + 1) cr).ownBlock = some g → g < wo.heap.size := fun g hg => by
                obtain ⟨L, hL⟩ := (unhide HAT).rl
                exact (hL.own.lt g hg).2
              have hown2 : ∀ g, (Value.slice p3 5 c3).ownBlock = some g → wt.heap.size ≤ g ∧ g < wq.heap.size := fun g hg => by
                obtain ⟨L, hL⟩ := unhide HR2
                exact hL.own.lt g hg
              have rl25 : Rl wt.heap.size y5 (.slice p3 5 c3) RL := ((unhide HR2).below bq4).aside b5 kk5 (fun g hg hg1 => by
                have h1 := hown1 g hg1
                have h2 := (hown2 g hg).1
                have h3 := (unhide HBO).size
                omega) u5
              have hne : ∀ g, (Value.slice p5 (k + 2) c5).ownBlock = some g → (Value.slice p3 5 c3).ownBlock ≠ some g := fun g hg hg2 => by
                have h2 := hown2 g hg2
                have h3 := (unhide HBO).size
                have h4 := bq4.size
                rcases q5 with e | e
                · rw [e] at hg
                  have := hown1 g hg
                  omega
                · rw [e] at hg
                  have := Option.some.inj hg
                  omega
              have hy4' : y3.alloc (.cells #[.string ⟨#[83, 117, 109]⟩, .string ⟨#[]⟩, .string ⟨#[]⟩, .string (txB (txt a d))] 9) = y4 := hy4e.symm
              have hrows : [hdS] ++ X.map (rowS d t) ++ [sumS d a] = rowsS d t X := by unfold rowsS; rw [unhide HA0]
              rw [hrows] at rl5
              have HR5 := hide r5; have HRL5 := hide rl5; have HRL25 := hide rl25; have HNE := hide hne
              have HBW5 : Hid (Below w1.heap.size w1 y5) := ((unhide HAT).bel.trans (bo4.mono (unhide HAT).bel.size)).trans b5
              have HSZ5 : Hid (wt.heap.size ≤ y5.heap.size) := Nat.le_trans (unhide H2).size (Nat.le_trans bq4.size b5.size)
              have d4 := hide (unhide D4 y5)
              clear hy3 hy4e b34 bq4 bo4 hri4 hl4 hB14 r5 rl5 b5 kk5 q5 u5 hown1 hown2 rl25 hne hrows D3 D4
              go_wp2_with (at_builtin; refine wpList_append_run rfl _ _ 94 rfl _ _ _ _ rfl rfl (unhide HR5) ?_)
              refine (unhide d4).mono ?_
              rintro e y6 ⟨rfl, hy6⟩
              obtain ⟨y7, hy7e⟩ : ∃ W, W = y6.alloc (litB [[83, 117, 109], txt b d]) := ⟨_, rfl⟩
              have b67 : Below y6.heap.size y6 y7 := by rw [hy7e]; exact bal (Below.refl _ _) _
              have b57 : Below y5.heap.size y5 y7 := hy6.trans (b67.mono hy6.size)
              have hri7 : RowIs y7 ⟨some ⟨y6.heap.size, 0, none⟩, 2, 2⟩ [[83, 117, 109], txt b d] := by rw [hy7e]; exact litL y6 [[83, 117, 109], txt b d]
              obtain ⟨p8, c8, y8, r8, rl8, b8, kk8, q8, u8⟩ := ((unhide HRL25).below b57).app2 (Nat.le_trans (unhide HSZ5) b57.size) hri7 (by rw [unhide HLR]; omega)
              rw [unhide HLR] at r8 rl8
              have rl18 : Rl w1.heap.size y8 (.slice p5 (k + 2) c5) (rowsS d t X) := ((unhide HRL5).below b57).aside b8 kk8 (unhide HNE) u8
              have hsec : RL ++ [[[83, 117, 109], txt b d]] = secS d (agL a0 a1 a2 a3 a4) b := by unfold secS; rw [unhide HRL]
              rw [hsec] at rl8
              have hy7' : y6.alloc (.cells #[.string ⟨#[83, 117, 109]⟩, .string (txB (txt b d))] 9) = y7 := hy7e.symm
              have HBW8 : Hid (Below w1.heap.size w1 y8) := by
                have h57 : Below w1.heap.size w1 y7 := (unhide HBW5).trans (b57.mono (unhide HBW5).size)
                have hle : w1.heap.size ≤ wt.heap.size := Nat.le_trans (unhide HAT).bel.size (unhide HBO).size
                exact h57.trans (b8.mono hle)
              have HR8 := hide r8; have HRL8 := hide rl8; have HRL18 := hide rl18
              have DT := rdate_any t htD y8
              unfold TxtOut at DT
              obtain ⟨T1, hT1⟩ : ∃ T, T = txB (dtx t) := ⟨_, rfl⟩
              rw [← hT1] at DT
              have DT := hide DT
              have z0 : acc.size ≤ 101 := by
                have := name_short hnm
                have e : acc.data.toList.length = acc.size := by simp
                omega
              have z1 : T1.size ≤ 100 := by rw [hT1, txB_len]; exact dtx_len t
              obtain ⟨T2, hT2⟩ : ∃ T, T = txB (gridT (rgB [false, false, false, true, true]) (rowsS d t X)) := ⟨_, rfl⟩
              obtain ⟨T3, hT3⟩ : ∃ T, T = txB (gridT (rgB [false, true]) (secS d (agL a0 a1 a2 a3 a4) b)) := ⟨_, rfl⟩
              have hxk : X.length = k := (unhide HAT).len
              have z2 : T2.size ≤ 100000000000 := by
                rw [hT2, txB_len]
                have := grid_len (rgB [false, false, false, true, true]) (rowsS_len d t X) (rowsS_cell hd' htD (unhide HFI))
                rw [rowsS_count, hxk] at this
                omega
              have z3 : T3.size ≤ 100000000000 := by
                rw [hT3, txB_len]
                have := grid_len (rgB [false, true]) (secS_len d _ b) (secS_cell hd' (agL_lab a0 a1 a2 a3 a4) b)
                have e : (secS d (agL a0 a1 a2 a3 a4) b).length = 6 := rfl
                rw [e] at this
                omega
              have k1 : ¬ 9223372036854775807 < 13 + acc.size := by omega
              have k2 : ¬ 9223372036854775807 < 13 + acc.size + 4 := by omega
              have k3 : ¬ 9223372036854775807 < 13 + acc.size + 4 + T1.size := by omega
              have k4 : ¬ 9223372036854775807 < 13 + acc.size + 4 + T1.size + 1 := by omega
              have k5 : ¬ 9223372036854775807 < 13 + acc.size + 4 + T1.size + 1 + T2.size := by omega
              have k6 : ¬ 9223372036854775807 < 13 + acc.size + 4 + T1.size + 1 + T2.size + T3.size := by omega
              have HT1 := hide hT1; have HT2 := hide hT2; have HT3 := hide hT3; have HXK := hide hxk
              clear hy6 hy7e b67 b57 hri7 r8 rl8 b8 kk8 q8 u8 rl18 hsec z0 z1 z2 z3 hT1 hT2 hT3 hxk d4 hy4'
              go_wp2_with first | (at_builtin; refine wpList_append_run rfl _ _ 94 rfl _ _ _ _ rfl rfl (unhide HR8) ?_) | (go_at_call 99; refine (unhide DT).mono ?_; rintro e y9 ⟨rfl, hy9⟩; have HY9 := hide hy9; clear hy9)
              obtain ⟨y10, hy10⟩ : ∃ W, W = y9.alloc (.cells #[.bool false, .bool false, .bool false, .bool true, .bool true] 4) := ⟨_, rfl⟩
              obtain ⟨y11, hy11⟩ : ∃ W, W = y10.alloc (.cells #[.bool false, .bool true] 4) := ⟨_, rfl⟩
              have b910 : Below y9.heap.size y9 y10 := by rw [hy10]; exact bal (Below.refl _ _) _
              have b1011 : Below y10.heap.size y10 y11 := by rw [hy11]; exact bal (Below.refl _ _) _
              have b810 : Below y8.heap.size y8 y10 := (unhide HY9).trans (b910.mono (unhide HY9).size)
              have b811 : Below y8.heap.size y8 y11 := b810.trans (b1011.mono b810.size)
              have hh10 : y10.heap[y9.heap.size]? = some (.cells #[.bool false, .bool false, .bool false, .bool true, .bool true] 4) := by rw [hy10]; exact heap_new _ _
              have hh11 : y11.heap[y10.heap.size]? = some (.cells #[.bool false, .bool true] 4) := by rw [hy11]; exact heap_new _ _
              have DG1 := rgrid_any (w := y10) (cr := c5) (n := k + 1 + 1) (gr := y9.heap.size) (nb := 5) (cb := 5) (by rw [rowsS_count, unhide HXK]) ((unhide HRL18).below b810).rd (B := [false, false, false, true, true]) rfl (fun c q hq => by
                have hc5 : c = 0 ∨ c = 1 ∨ c = 2 ∨ c = 3 ∨ c = 4 := by
                  have := (List.getElem?_eq_some_iff.1 hq).1
                  simp at this
                  omega
                rw [cell_at hh10]
                rcases hc5 with rfl | rfl | rfl | rfl | rfl <;> (cases hq; rfl)) (N := 5) (rowsS_len d t X) (by decide) (by decide) (M := 200) (rowsS_cell hd' htD (unhide HFI)) (by decide) (by rw [rowsS_count, unhide HXK]; omega) (by omega)
              have DG2 := rgrid_any (w := y11) (cr := c8) (n := 6) (gr := y10.heap.size) (nb := 2) (cb := 2) (R := secS d (agL a0 a1 a2 a3 a4) b) rfl ((unhide HRL8).below b811).rd (B := [false, true]) rfl (fun c q hq => by
                have hc2 : c = 0 ∨ c = 1 := by
                  have := (List.getElem?_eq_some_iff.1 hq).1
                  simp at this
                  omega
                rw [cell_at hh11]
                rcases hc2 with rfl | rfl <;> (cases hq; rfl)) (N := 2) (secS_len d _ b) (by decide) (by decide) (M := 200) (secS_cell hd' (agL_lab a0 a1 a2 a3 a4) b) (by decide) (by show (6 + 1) * (2 * (200 + 2) + 1) ≤ _; decide) (by decide)
              unfold GridOut at DG1 DG2
              rw [← unhide HT2] at DG1
              rw [← unhide HT3] at DG2
              have DG1 := hide DG1; have DG2 := hide DG2
              have HB811 := hide b811
              have hy10' := hy10.symm; have hy11' := hy11.symm
              clear b910 b1011 b810 b811 hh10 hh11 hy10 hy11
              rw [hy10']
              refine (unhide DG1).mono ?_
              rintro e wz ⟨rfl, hwz⟩
              rw [hwz]
              clear hwz wz DG1 hy10'
              go_wp2_with (go_at_call 56; refine (unhide DG2).mono ?_; rintro e wz ⟨rfl, hwz⟩; rw [hwz]; clear hwz wz)
              go_ret2
              refine ⟨?_, ?_⟩
              · have e : (⟨#[83, 116, 97, 116, 101, 109, 101, 110, 116, 32, 111, 102, 32]⟩ : ByteArray) ++ acc ++ ⟨#[32, 97, 116, 32]⟩ ++ T1 ++ ⟨#[10]⟩ ++ T2 ++ T3 = txB (staT d acc X [a0, a1, a2, a3, a4] t) := by
                  rw [unhide HT1, unhide HT2, unhide HT3, sides_five, sides_two]
                  unfold staT hdrS
                  rw [← txB_app, ← txB_app, ← txB_app, ← txB_app, ← txB_app, ← txB_app, ← unhide HAL, ← unhide HB0, unhide HAL]
                  rfl
                rw [unhide HANS]
                show _ = Ending.returned (.tuple #[.string (txB (staT d acc X [a0, a1, a2, a3, a4] t)), .int .i64 0])
                rw [← e]
                rfl
              · have h1 := (unhide HBW8).trans ((unhide HB811).mono (unhide HBW8).size)
                exact (unhide HB01).trans (h1.mono (unhide HB01).size)
            · subst he2
              have HE : Hid (ansS (d : Int) acc X [a0, a1, a2, a3, a4] t = ([], 11)) := by
                show _ = _
                unfold ansS
                rw [unhide HERR]
                rfl
              go_wp2_with fail
              go_ret2
              exact ⟨by rw [unhide HE]; rfl, unhide HYW⟩
          · subst he1
            have HE : Hid (ansS (d : Int) acc X [a0, a1, a2, a3, a4] t = ([], 11)) := by
              show _ = _
              unfold ansS
              rw [unhide HERR]
              rfl
            go_wp2_with fail
            go_ret2
            exact ⟨by rw [unhide HE]; rfl, unhide HYW⟩
/-- the document's Statement -/
theorem rstatement_any {w : World} {p : Option Addr} {n c : Nat} {X : List Qm} (hX : X.length = n) (hL : Lies kQ w p X) (hok : ∀ x ∈ X, QmOk x) (hn : n ≤ 1048576) (acc : ByteArray) (hacc : acc.size < 4611686018427387904) (a0 a1 a2 a3 a4 : Int)
    (hA : ∀ z ∈ [a0, a1, a2, a3, a4], fits64 z) (t : Int) (ht : fits64 t) (dg : Int) (hdg : fits64 dg) :
    Calls Tryz.prog 22 #[.string acc, .slice p n c, agV a0 a1 a2 a3 a4, .int .i64 t, .int .i64 dg] w (TriOut w (ansS dg acc X [a0, a1, a2, a3, a4] t)) := by
  by_cases hb : dg < 0 ∨ 6 < dg ∨ isDb t = false ∨ nameL acc.data.toList = false
  · exact rstatement_bad acc hacc a0 a1 a2 a3 a4 t ht dg hdg hb
  · obtain ⟨d, rfl⟩ : ∃ d : Nat, dg = (d : Int) := ⟨dg.toNat, by omega⟩
    refine rstatement_good hX hL hok hn acc hacc a0 a1 a2 a3 a4 hA t d (by omega) ?_ ?_
    · cases h : isDb t with
      | true => rfl
      | false => exact absurd (.inr (.inr (.inl h))) hb
    · cases h : nameL acc.data.toList with
      | true => rfl
      | false => exact absurd (.inr (.inr (.inr h))) hb
end Go.Proofs.YtcafhmlpmbkhkaaGreatDoor
