import Derived.Test.YtcafhmlpmbkhkaaGreatDoorR22
import Derived.Test.YtcafhmlpmbkhkaaGreatDoorR17
import Derived.Test.YtcafhmlpmbkhkaaGreatDoorR16
import Derived.Test.YtcafhmlpmbkhkaaGreatDoorW26
namespace Go.Proofs.YtcafhmlpmbkhkaaGreatDoor
open Go Go.Shelf Go.ChangeShapes Go.WideShapes Go.ChangeAt Go.RowKit Go.Maps
set_option linter.unusedVariables false
set_option linter.unusedSimpArgs false
structure RwAt (w : World) (L : List Ch.Ac) (B : List Bv) (k : Nat) (W : World) : Prop where
  bel : Below w.heap.size w W
  err : rolE L [] B = rolE L (B.take k) (B.drop k)
structure RyAt (w : World) (d : Nat) (F : ByteArray → Option Int) (A : List Tx) (rv : Value) (W : World) : Prop where
  rl : Rl w.heap.size W rv (A.map (rowW d F))
  bel : Below w.heap.size w W
theorem take1V {W : World} {p : Option Addr} {B : List Bv} (h : Lies kV W p B) (k : Nat) : Lies kV W p (B.take k) := by
  rw [← List.take_append_drop k B] at h
  exact h.take
theorem Rl.nil (w : World) (B : Nat) : Rl B w (.slice none 0 0) [] := ⟨[], World.ownsRow_nil _ _ _ _, rfl, fun k s r hs hr => by cases hr⟩
theorem litW (w : World) (a b c : ByteArray) (ta tb tc : Tx) (ha : a = txB ta) (hb : b = txB tb) (hc : c = txB tc) : RowIs (w.alloc (.cells #[.string a, .string b, .string c] 9)) ⟨some ⟨w.heap.size, 0, none⟩, 3, 3⟩ [ta, tb, tc] := by
  subst ha hb hc
  exact lit3 w ta tb tc
set_option maxRecDepth 100000 in
set_option maxHeartbeats 16000000 in
theorem rtree_any {w : World} {pa : Option Addr} {na ca : Nat} {L : List Ch.Ac} (hL : L.length = na) (hLL : Lies Ch.kA w pa L) (hpa : pa = none → ca = 0) (hna : na ≤ 1048576) (hsz : ∀ a ∈ L, (Ch.txN a.nm).size ≤ 1048576) {p : Option Addr} {n c : Nat} {B : List Bv} (hB : B.length = n) (hLB : Lies kV w p B) (hcap : n ≤ c) (hok : ∀ x ∈ B, BvOk x) (hn : n ≤ 1048576) (dg : Int) (hdg : fits64 dg) :
    Calls Tryz.prog 34 #[.slice pa na ca, .slice p n c, .int .i64 dg] w (TriOut w (ansW dg L B)) := by
  by_cases hbad : dg < 0 ∨ 6 < dg
  · have HE : Hid (ansW dg L B = ([], 1)) := by
      have e : errW dg L B = 1 := if_pos hbad
      show _ = _
      unfold ansW
      rw [e, if_neg (by decide)]
    have HB : Hid (Below w.heap.size w w) := Below.refl _ _
    have D := hide (rdig_no dg w hbad)
    clear hL hLL hB hLB hok hbad hpa
    go_enter Tryz.func34, Tryz.ntmps34
    go_wp2_with (go_at_call 52; refine (unhide D).mono ?_; rintro e w1 ⟨rfl, hw1⟩; rw [hw1]; clear hw1 w1)
    go_ret2
    exact ⟨by rw [unhide HE]; rfl, unhide HB⟩
  · obtain ⟨d, hd⟩ : ∃ d : Nat, dg = (d : Int) := ⟨dg.toNat, by omega⟩
    subst hd
    have hd' : d ≤ 6 := by omega
    have D0 := hide (rdig_yes (d : Int) w (by omega) (by omega))
    have HNB : Hid (¬ ((d : Int) < 0 ∨ 6 < (d : Int))) := hbad
    have D1 := hide (Ch.rfrom_any (c := ca) hL (by omega) hLL hpa (fun a ha => by have := hsz a ha; omega))
    have HB := hide hB; have HLB := hide hLB; have HOK := hide hok
    clear hL hLL hsz hB hLB hok hbad hdg hpa
    go_enter Tryz.func34, Tryz.ntmps34
    go_wp2_with (go_at_call 52; refine (unhide D0).mono ?_; rintro e w1 ⟨rfl, hw1⟩; rw [hw1]; clear hw1 w1 D0)
    refine (unhide D1).mono ?_
    rintro e w1 ⟨⟨hG, dd, S, rfl, hrc, -⟩ | ⟨hG, rfl⟩, hb1⟩
    · have HERR : Hid (errW (d : Int) L B = rolE L [] B) := by
        show _ = _
        unfold errW
        rw [if_neg (unhide HNB), if_pos (Ch.ok_good.2 hG)]
      have HOUT : Hid (∀ E, E ≠ 0 → rolE L [] B = E → ansW (d : Int) L B = ([], E)) := fun E hE h => by
        unfold ansW
        rw [unhide HERR, h, if_neg hE]
      have H0 : Hid (RwAt w1 L B 0 w1) := ⟨Below.refl _ _, rfl⟩
      have HB1 := hide hb1; have HG := hide hG
      have HRC : Hid (∀ W, Below w1.heap.size w1 W → Ch.Rc W dd S L ∧ Lies kV W p B ∧ Below w.heap.size w W) := fun W hW => ⟨hrc.below hW, (unhide HLB).below (hb1.trans (hW.mono hb1.size)), hb1.trans (hW.mono hb1.size)⟩
      unfold Ch.ptr
      clear hb1 hrc hG D1
      go_wp2_with fail
      go_loopw [10] (fun iv W => ∃ (k : Nat) (K : Int), k ≤ n ∧ iv = .int .i64 K ∧ K = (k : Int) ∧ Hid (RwAt w1 L B k W)) (fun iv _ => ((n : Int) - intOf iv).toNat)
      case atStart => exact ⟨0, 0, by omega, rfl, rfl, unhide H0⟩
      case round =>
        obtain ⟨wo, rfl⟩ : ∃ x, x = wr := ⟨wr, rfl⟩
        obtain ⟨k, K, hk, rfl, hK, HA⟩ := hrel
        by_cases hlt : k < n
        · have hI : K < (n : Int) := by omega
          have hK0 : 0 ≤ K := by omega
          have hKt : K.toNat = k := by omega
          have hkB : k < B.length := by have := unhide HB; omega
          obtain ⟨b, o, ep, c0, c2⟩ := lies_cV (unhide HRC wo (unhide HA).bel).2.1 hkB
          obtain ⟨x, hx⟩ : ∃ x, x = B[k] := ⟨_, rfl⟩
          rw [← hx] at c0 c2
          have hxm : x ∈ B := by rw [hx]; exact List.getElem_mem hkB
          have hxo := unhide HOK x hxm
          have HTK : Hid (B.take (k + 1) = B.take k ++ [x]) := by show _ = _; rw [List.take_succ_eq_append_getElem hkB, ← hx]
          have HDR : Hid (B.drop k = x :: B.drop (k + 1)) := by show _ = _; rw [List.drop_eq_getElem_cons hkB, ← hx]
          subst ep
          have D2 := Ch.rfind_any (unhide HRC wo (unhide HA).bel).1 x.acc
          obtain ⟨fb, hfb⟩ : ∃ f, f = (Ch.fnd L x.acc.data.toList).isSome := ⟨_, rfl⟩
          obtain ⟨A0, hA0⟩ : ∃ A, A = Ch.findA L x.acc.data.toList := ⟨_, rfl⟩
          rw [← hfb, ← hA0] at D2
          unfold Ch.acV Ch.ptr at D2
          have HER := hide (unhide HA).err
          rw [unhide HDR, rolE] at HER
          have HBO := hide (unhide HA).bel
          have HCE : Hid (∀ W, Below wo.heap.size wo W → W.cell? ⟨b, o + k * 3, none⟩ = some (.string x.acc) ∧ W.cell? ⟨b, o + k * 3 + 2, none⟩ = some (.int .i64 x.rol) ∧ Below w1.heap.size w1 W) := fun W hW => by
            have hb := (unhide HA).bel.trans (hW.mono (unhide HA).bel.size)
            obtain ⟨b', o', ep', q0, q2⟩ := lies_cV (unhide HRC W hb).2.1 hkB
            have eo : b' = b ∧ o' = o := by injection ep' with e; injection e with e1 e2; exact ⟨e1.symm, e2.symm⟩
            obtain ⟨rfl, rfl⟩ := eo
            rw [← hx] at q0 q2
            exact ⟨q0, q2, hb⟩
          replace D2 := hide D2
          have HFB := hide hfb; have HXO := hide hxo; have HK := hide hK
          obtain ⟨q, hq⟩ : ∃ q, q = rolO (B.take k) x.acc := ⟨_, rfl⟩
          have HQ := hide hq
          have hkc : (k : Int) ≤ (c : Int) := by omega
          have hKc : K ≤ (c : Int) := by omega
          clear hkB hK hx hxm hxo hfb hA0 HA hq
          cases fb with
          | false =>
            have HE : Hid (rolE L [] B = 61) := by
              show _ = _
              have hb : balE L (B.take k) x = 61 := by unfold balE; rw [if_pos (unhide HFB).symm]
              have := unhide HER
              rw [hb, if_neg (by decide)] at this
              exact this
            go_wp2_with (go_at_call 125; refine (unhide D2).mono ?_; rintro e w2 ⟨rfl, hb2⟩; have HB2 := hide hb2; clear hb2 D2)
            go_ret2
            refine ⟨?_, ?_⟩
            · rw [unhide HOUT 61 (by decide) (unhide HE)]
              rfl
            · exact bal (unhide HRC _ ((unhide HBO).trans ((unhide HB2).mono (unhide HBO).size))).2.2 _
          | true =>
            have HB0 : Hid (∀ r, (if (rolO (B.take k) x.acc).isSome = true then (70 : Int) else if x.rol = -9223372036854775808 then 10 else 0) = r → balE L (B.take k) x = r) := fun r hr => by
              unfold balE
              rw [if_neg (by rw [← unhide HFB]; decide)]
              exact hr
            cases q with
            | some v =>
              have HE : Hid (rolE L [] B = 70) := by
                show _ = _
                have hb := unhide HB0 70 (by rw [← unhide HQ]; rfl)
                have := unhide HER
                rw [hb, if_neg (by decide)] at this
                exact this
              go_upto_region 12 with (go_at_call 125; refine (unhide D2).mono ?_; rintro e w2 ⟨rfl, hb2⟩; have HB2 := hide hb2; clear hb2 D2)
              obtain ⟨w3, hw3⟩ : ∃ W, W = w2.alloc (.cells #[.string (Ch.txN A0.nm), .int .i64 A0.ty, .int .i64 A0.dy, .bool A0.cl] 139) := ⟨_, rfl⟩
              have b3 : Below wo.heap.size wo w3 := by rw [hw3]; exact bal (unhide HB2) _
              have HB3 := hide b3
              obtain ⟨z0, z2, zb⟩ := unhide HCE w3.drew (below_drewN b3 1)
              have hw3' := hw3.symm
              have D3 : Hid (Calls Tryz.prog 126 #[.slice (some ⟨b, o, none⟩) k c, .string x.acc] w3.drew fun e w' => e = .returned (.tuple #[.int .i64 v, .bool true]) ∧ w' = w3.drew) := by
                have h := rroll_any (n := k) (c := c) (B := B.take k) (by rw [List.length_take]; have := unhide HB; omega) (take1V (unhide HRC w3.drew zb).2.1 k) (by omega) x.acc
                rw [← unhide HQ] at h
                simp only [Option.getD_some, Option.isSome_some] at h
                exact h
              rw [hw3']
              clear hw3 b3 hw3' z2 zb
              refine wp_region_last (n := 14) (S := fun W => W.cell? ⟨b, o + k * 3, none⟩ = some (.string x.acc)) (by kernel_rfl) z0 (fun hHeld => ?_)
              refine tkW 0 ?_; refine tkW 1 ?_; refine tkW 2 ?_; refine tkW 3 ?_; refine tkW 4 ?_; refine tkW 5 ?_; refine tkW 6 ?_
              refine tkN 7 ?_
              clear hHeld
              refine wpAnyL_one (i := 8) (by kernel_rfl) rfl (fun KK hK => ?_)
              go_simp
              go_wp2_with (go_at_call 126; refine (unhide D3).mono ?_; rintro e wz ⟨rfl, hwz⟩; rw [hwz]; clear hwz wz D3)
              refine hK.out _ _ z0 (fun hHeld => ?_)
              clear hK KK
              refine tkW 9 ?_; refine tkW 10 ?_; refine tkW 11 ?_; refine tkW 12 ?_; refine tkW 13 ?_
              clear hHeld z0
              refine wpAnyL_done (by kernel_rfl) ?_
              obtain ⟨y0, y2, yb⟩ := unhide HCE w3.drew (below_drewN (unhide HB3) 1)
              have HYB := hide yb
              clear yb c0 c2 y0
              clear y2
              go_wp2_with fail
              go_ret2
              refine ⟨?_, ?_⟩
              · rw [unhide HOUT 70 (by decide) (unhide HE)]
                rfl
              · exact (unhide HRC _ (unhide HYB)).2.2
            | none =>
              go_upto_region 12 with (go_at_call 125; refine (unhide D2).mono ?_; rintro e w2 ⟨rfl, hb2⟩; have HB2 := hide hb2; clear hb2 D2)
              obtain ⟨w3, hw3⟩ : ∃ W, W = w2.alloc (.cells #[.string (Ch.txN A0.nm), .int .i64 A0.ty, .int .i64 A0.dy, .bool A0.cl] 139) := ⟨_, rfl⟩
              have b3 : Below wo.heap.size wo w3 := by rw [hw3]; exact bal (unhide HB2) _
              have HB3 := hide b3
              obtain ⟨z0, z2, zb⟩ := unhide HCE w3.drew (below_drewN b3 1)
              have hw3' := hw3.symm
              have D3 : Hid (Calls Tryz.prog 126 #[.slice (some ⟨b, o, none⟩) k c, .string x.acc] w3.drew fun e w' => e = .returned (.tuple #[.int .i64 0, .bool false]) ∧ w' = w3.drew) := by
                have h := rroll_any (n := k) (c := c) (B := B.take k) (by rw [List.length_take]; have := unhide HB; omega) (take1V (unhide HRC w3.drew zb).2.1 k) (by omega) x.acc
                rw [← unhide HQ] at h
                simp only [Option.getD_none, Option.isSome_none] at h
                exact h
              rw [hw3']
              clear hw3 b3 hw3' z2 zb
              refine wp_region_last (n := 14) (S := fun W => W.cell? ⟨b, o + k * 3, none⟩ = some (.string x.acc)) (by kernel_rfl) z0 (fun hHeld => ?_)
              refine tkW 0 ?_; refine tkW 1 ?_; refine tkW 2 ?_; refine tkW 3 ?_; refine tkW 4 ?_; refine tkW 5 ?_; refine tkW 6 ?_
              refine tkN 7 ?_
              clear hHeld
              refine wpAnyL_one (i := 8) (by kernel_rfl) rfl (fun KK hK => ?_)
              go_simp
              go_wp2_with (go_at_call 126; refine (unhide D3).mono ?_; rintro e wz ⟨rfl, hwz⟩; rw [hwz]; clear hwz wz D3)
              refine hK.out _ _ z0 (fun hHeld => ?_)
              clear hK KK
              refine tkW 9 ?_; refine tkW 10 ?_; refine tkW 11 ?_; refine tkW 12 ?_; refine tkW 13 ?_
              clear hHeld z0
              refine wpAnyL_done (by kernel_rfl) ?_
              obtain ⟨y0, y2, yb⟩ := unhide HCE w3.drew (below_drewN (unhide HB3) 1)
              have HYB := hide yb
              clear yb c0 c2 y0
              obtain ⟨r, hr⟩ : ∃ r, r = x.rol := ⟨_, rfl⟩
              rw [← hr] at y2
              have HRR := hide hr
              clear hr
              by_cases hm : r = -9223372036854775808
              · subst hm
                have HE : Hid (rolE L [] B = 10) := by
                  show _ = _
                  have hb := unhide HB0 10 (by rw [← unhide HQ, ← unhide HRR]; rfl)
                  have := unhide HER
                  rw [hb, if_neg (by decide)] at this
                  exact this
                go_wp2_with (go_at_call 127; refine (rck_no _).mono ?_; rintro e wz ⟨rfl, hwz⟩; rw [hwz]; clear hwz wz)
                go_ret2
                refine ⟨?_, ?_⟩
                · rw [unhide HOUT 10 (by decide) (unhide HE)]
                  rfl
                · exact (unhide HRC _ (unhide HYB)).2.2
              · have hrf := (unhide HXO).rol
                rw [← unhide HRR] at hrf
                have hm2 : -9223372036854775807 ≤ r := by unfold fits64 at hrf; omega
                have DK := hide (rck_yes r w3.drew hm2)
                have HNEW : Hid (RwAt w1 L B (k + 1) w3.drew) := by
                  refine ⟨unhide HYB, ?_⟩
                  have hb := unhide HB0 0 (by rw [← unhide HQ, ← unhide HRR, if_neg (by decide), if_neg hm])
                  have := unhide HER
                  rw [hb, if_pos rfl] at this
                  rw [unhide HTK]
                  exact this
                clear hrf hm
                go_wp2_with (go_at_call 127; refine (unhide DK).mono ?_; rintro e wz ⟨rfl, hwz⟩; rw [hwz]; clear hwz wz)
                exact ⟨⟨k + 1, K + 1, by omega, by go_num, by have := unhide HK; omega, unhide HNEW⟩, by have := unhide HK; simp [intOf]; omega⟩
        · have hI : ¬ K < (n : Int) := by omega
          have hkn : k = B.length := by have := unhide HB; omega
          have hz : rolE L [] B = 0 := by
            have h := (unhide HA).err
            rw [hkn, List.drop_length, rolE] at h
            exact h
          have HANS : Hid (ansW (d : Int) L B = (gridT (rgt [0, 1, 1]) (treR d L (rolO B)), 0)) := by
            show _ = _
            unfold ansW
            rw [unhide HERR, if_pos hz]
            rfl
          have HF := hide (rolO_isA hz (unhide HOK))
          obtain ⟨F, hFF⟩ : ∃ F, F = rolO B := ⟨_, rfl⟩
          rw [← hFF] at HANS HF
          have HROL : Hid (∀ W, Below w1.heap.size w1 W → ∀ t, Calls Tryz.prog 126 #[.slice p n c, .string t] W fun e w' => e = .returned (.tuple #[.int .i64 (gO F t), .bool (F t).isSome]) ∧ w' = W) := fun W hW t => by
            rw [hFF]
            exact rroll_any (c := c) (unhide HB) (unhide HRC W hW).2.1 hn t
          obtain ⟨Kn, hKE⟩ : ∃ Kn, Kn = Ch.desc L 6 [] := ⟨_, rfl⟩
          have HKS : Hid (∀ y ∈ Kn, y.length ≤ 101) := by rw [hKE]; exact desc_short (unhide HG)
          have hKL : Kn.length ≤ 100 := by rw [hKE, Ch.desc_len (unhide HG)]; exact (unhide HG).len
          have hbo := (unhide HA).bel
          have D5 := Ch.rwalk_any (unhide HRC wo hbo).1
          rw [← hKE] at D5
          unfold Ch.ptr at D5
          replace D5 := hide D5
          have HKE := hide hKE; have HBO := hide hbo
          obtain ⟨m, hm⟩ : ∃ m, m = Kn.length := ⟨_, rfl⟩
          have hm1 : m ≤ 100 := by omega
          have HM := hide hm
          clear HA hK hkn hz hFF hKE hbo hKL H0 hm
          go_wp2_with (go_at_call 128; refine (unhide D5).mono ?_)
          rintro e w2 ⟨pn, cn, rfl, hon, hb2⟩
          rw [← unhide HM]
          have HBW2 : Hid (Below w1.heap.size w1 w2) := (unhide HBO).trans (hb2.mono (unhide HBO).size)
          have HNM : Hid (∀ W, Below w2.heap.size w2 W → ∀ j (hj : j < Kn.length), ∃ b o, pn = some ⟨b, o, none⟩ ∧ W.cell? ⟨b, o + j, none⟩ = some (.string (txB Kn[j]))) := fun W hW j hj => by
            have hl : Lies kT W pn Kn := own_lies kT_ok rfl (own_below hon hW)
            obtain ⟨b, o, e, _, hr⟩ := hl.2 j hj
            refine ⟨b, o, e, ?_⟩
            have := hr 0 _ rfl
            simpa [kT] using this
          have HSTART : Hid (RyAt w2 d F [] (.slice none 0 0) w2) := ⟨Rl.nil _ _, Below.refl _ _⟩
          clear hon hb2 D5
          go_wp2_with fail
          go_loopw [16, 17] (fun rv iv W => ∃ (j : Nat) (J : Int), j ≤ m ∧ iv = .int .i64 J ∧ J = (j : Int) ∧ (∃ pr cr, rv = .slice pr j cr) ∧ Hid (RyAt w2 d F (Kn.take j) rv W)) (fun _ iv _ => ((m : Int) - intOf iv).toNat)
          case atStart => exact ⟨0, 0, by omega, rfl, rfl, ⟨_, _, rfl⟩, unhide HSTART⟩
          case round =>
            obtain ⟨wa, rfl⟩ : ∃ x, x = wr := ⟨wr, rfl⟩
            obtain ⟨j, J, hj, rfl, hJ, ⟨pr, cr, rfl⟩, HA⟩ := hrel
            by_cases hjl : j < m
            · have hI2 : J < (m : Int) := by omega
              have hJ0 : 0 ≤ J := by omega
              have hJt : J.toNat = j := by omega
              have hjK : j < Kn.length := by have := unhide HM; omega
              obtain ⟨b, o, ep, c1⟩ := unhide HNM wa (unhide HA).bel j hjK
              obtain ⟨y, hy⟩ : ∃ y, y = Kn[j] := ⟨_, rfl⟩
              rw [← hy] at c1
              have hyl : y.length ≤ 101 := unhide HKS y (by rw [hy]; exact List.getElem_mem hjK)
              have HTK : Hid (Kn.take (j + 1) = Kn.take j ++ [y]) := by show _ = _; rw [List.take_succ_eq_append_getElem hjK, ← hy]
              obtain ⟨T, hT⟩ : ∃ T, T = txB y := ⟨_, rfl⟩
              have hTs : T.size ≤ 1048576 := by rw [hT, txB_len]; omega
              subst ep
              have HCE : Hid (∀ W, Below wa.heap.size wa W → W.cell? ⟨b, o + j, none⟩ = some (.string T) ∧ Below w2.heap.size w2 W ∧ Below w1.heap.size w1 W) := fun W hW => by
                have h2 := (unhide HA).bel.trans (hW.mono (unhide HA).bel.size)
                obtain ⟨b', o', ep', q0⟩ := unhide HNM W h2 j hjK
                have eo : b' = b ∧ o' = o := by injection ep' with e; injection e with e1 e2; exact ⟨e1.symm, e2.symm⟩
                obtain ⟨rfl, rfl⟩ := eo
                rw [← hy, ← hT] at q0
                exact ⟨q0, h2, (unhide HBW2).trans (h2.mono (unhide HBW2).size)⟩
              rw [← hT] at c1
              obtain ⟨v, hv⟩ : ∃ v, v = gO F T := ⟨_, rfl⟩
              obtain ⟨rt, hrt⟩ : ∃ r, r = rootB T := ⟨_, rfl⟩
              obtain ⟨r, hr⟩ : ∃ r, r = gO F rt := ⟨_, rfl⟩
              have hvA : isA v := by rw [hv]; exact gO_isA (unhide HF) T
              have hrA : isA r := by rw [hr]; exact gO_isA (unhide HF) rt
              have HROW : Hid (rowW d F y = [indN y, txt v d, shrN v r]) := by show _ = _; unfold rowW; rw [hr, hrt, hv, hT]
              have D6 := unhide HROL wa (unhide HCE wa (Below.refl _ _)).2.2 T
              rw [← hv] at D6
              replace D6 := hide D6
              have D7 := Ch.rroot_any T (by omega) wa
              rw [show Ch.lastS (pathL T.data.toList) = rt from hrt.symm] at D7
              replace D7 := hide D7
              have HD8 : Hid (∀ W, Below wa.heap.size wa W → Calls Tryz.prog 126 #[.slice p n c, .string rt] W fun e w' => e = .returned (.tuple #[.int .i64 r, .bool (F rt).isSome]) ∧ w' = W) := fun W hW => by
                have := unhide HROL W (unhide HCE W hW).2.2 rt
                rw [← hr] at this
                exact this
              obtain ⟨X1, hX1⟩ : ∃ X, X = txB (indN y) := ⟨_, rfl⟩
              obtain ⟨X2, hX2⟩ : ∃ X, X = txB (txt v d) := ⟨_, rfl⟩
              obtain ⟨X3, hX3⟩ : ∃ X, X = txB (shrN v r) := ⟨_, rfl⟩
              have HD9 : Hid (∀ W : World, Calls Tryz.prog 130 #[.string T] W fun e w' => e = .returned (.string X1) ∧ Below W.heap.size W w') := fun W => by
                have := rlast_any y (by omega) W
                unfold TxtOut at this
                rw [← hT, ← hX1] at this
                exact this
              have HD10 : Hid (∀ W : World, Calls Tryz.prog 54 #[.int .i64 v, .int .i64 (d : Int)] W fun e w' => e = .returned (.string X2) ∧ Below W.heap.size W w') := fun W => by
                have := rmoney_any v d hvA hd' W
                unfold TxtOut at this
                rw [← hX2] at this
                exact this
              have HD11 : Hid (∀ W : World, Calls Tryz.prog 131 #[.int .i64 v, .int .i64 r] W fun e w' => e = .returned (.string X3) ∧ Below W.heap.size W w') := fun W => by
                have := rshare_any v r hvA hrA W
                unfold TxtOut at this
                rw [← hX3] at this
                exact this
              have HX1 := hide hX1; have HX2 := hide hX2; have HX3 := hide hX3; have HJ := hide hJ
              obtain ⟨fz, hfz⟩ : ∃ z, z = (F T).isSome := ⟨_, rfl⟩
              obtain ⟨fy, hfy⟩ : ∃ z, z = (F rt).isSome := ⟨_, rfl⟩
              rw [← hfz] at D6
              rw [← hfy] at HD8
              have HAPP : Hid (∀ W6, Below wa.heap.size wa W6 → ∃ p' c' w8, (Builtin.append_ #[94, 94] 94 #[.slice pr j cr, .slice (some ⟨W6.heap.size + 1, 0, none⟩) 1 1]).run Tryz.prog ((W6.alloc (.cells #[.string X1, .string X2, .string X3] 9)).alloc (.cells #[.slice (some ⟨W6.heap.size, 0, none⟩) 3 3] 93)) = .ok (.slice p' (j + 1) c') w8 ∧ RyAt w2 d F (Kn.take (j + 1)) (.slice p' (j + 1) c') w8) := fun W6 h6 => by
                have b7 : Below W6.heap.size W6 (W6.alloc (.cells #[.string X1, .string X2, .string X3] 9)) := bal (Below.refl _ _) _
                have h7 := h6.trans (b7.mono h6.size)
                have hri : RowIs (W6.alloc (.cells #[.string X1, .string X2, .string X3] 9)) ⟨some ⟨W6.heap.size, 0, none⟩, 3, 3⟩ (rowW d F y) := by
                  rw [unhide HROW]
                  exact litW W6 X1 X2 X3 _ _ _ hX1 hX2 hX3
                have hbel : Below w2.heap.size w2 (W6.alloc (.cells #[.string X1, .string X2, .string X3] 9)) := (unhide HA).bel.trans (h7.mono (unhide HA).bel.size)
                have hlj : ((Kn.take j).map (rowW d F)).length = j := by rw [List.length_map, List.length_take]; omega
                obtain ⟨p', c', w8, r8, rl8, b8, _⟩ := ((unhide HA).rl.below h7).app hbel.size hri (by rw [hlj]; omega)
                rw [hlj, World.size_alloc] at r8
                rw [hlj] at rl8
                refine ⟨p', c', w8, r8, ?_, hbel.trans b8⟩
                rw [unhide HTK, List.map_append]
                exact rl8
              clear hjK hJ hy hyl hT hTs hv hrt hr hvA hrA hX1 hX2 hX3 hfz hfy
              go_wp2_with (go_at_call 126; refine (unhide D6).mono ?_; rintro e wz ⟨rfl, hwz⟩; rw [hwz]; clear hwz wz D6)
              go_wp2_with (go_at_call 129; refine (unhide D7).mono ?_; rintro e w3 ⟨rfl, hb3⟩; have HB3 := hide hb3; clear hb3 D7; have D8 := hide (unhide HD8 w3 (unhide HB3)); have c3 := (unhide HCE w3 (unhide HB3)).1)
              go_wp2_with (go_at_call 126; refine (unhide D8).mono ?_; rintro e wz ⟨rfl, hwz⟩; rw [hwz]; clear hwz wz D8)
              have D9 := hide (unhide HD9 w3)
              go_wp2_with (go_at_call 130; refine (unhide D9).mono ?_; rintro e w4 ⟨rfl, hb4⟩; have HB4 := hide ((unhide HB3).trans (hb4.mono (unhide HB3).size)); clear hb4 D9 c3)
              have D10 := hide (unhide HD10 w4)
              go_wp2_with (go_at_call 54; refine (unhide D10).mono ?_; rintro e w5 ⟨rfl, hb5⟩; have HB5 := hide ((unhide HB4).trans (hb5.mono (unhide HB4).size)); clear hb5 D10)
              have D11 := hide (unhide HD11 w5)
              go_wp2_with first | (go_at_call 131; refine (unhide D11).mono ?_; rintro e w6 ⟨rfl, hb6⟩; have HB6 := hide ((unhide HB5).trans (hb6.mono (unhide HB5).size)); obtain ⟨pr2, cr2, w8, hr8, hn8⟩ := unhide HAPP w6 (unhide HB6); have HR8 := hide hr8; have HN8 := hide hn8; clear hb6 D11 hr8 hn8) | (at_builtin; refine wpList_append_run rfl _ _ 94 rfl _ _ _ _ rfl rfl (unhide HR8) ?_)
              exact ⟨⟨j + 1, J + 1, by omega, by go_num, by have := unhide HJ; omega, ⟨_, _, rfl⟩, unhide HN8⟩, by have := unhide HJ; simp [intOf]; omega⟩
            · have hI2 : ¬ J < (m : Int) := by omega
              have hjm : j = m := by omega
              subst hjm
              have hA : RyAt w2 d F Kn (.slice pr j cr) wa := by
                have h := unhide HA
                rw [List.take_of_length_le (by have := unhide HM; omega)] at h
                exact h
              have hrows : Kn.map (rowW d F) = treR d L F := by unfold treR; rw [← unhide HKE]
              have hrl := hA.rl
              rw [hrows] at hrl
              have hcnt := treR_count (unhide HG) d F
              have hlen : j = (treR d L F).length := by rw [← hrows, List.length_map]; exact unhide HM
              obtain ⟨w9, hw9⟩ : ∃ W, W = wa.alloc (.cells #[.bool false, .bool true, .bool true] 4) := ⟨_, rfl⟩
              have b9 : Below wa.heap.size wa w9 := by rw [hw9]; exact bal (Below.refl _ _) _
              have hh9 : w9.heap[wa.heap.size]? = some (.cells #[.bool false, .bool true, .bool true] 4) := by rw [hw9]; exact heap_new _ _
              have D12 : Hid (Calls Tryz.prog 56 #[.slice pr j cr, .slice (some ⟨wa.heap.size, 0, none⟩) 3 3] w9 (GridOut w9 (gridT (rgB [false, true, true]) (treR d L F)))) := by
                refine rgrid_any hlen (hrl.below b9).rd (B := [false, true, true]) rfl (fun c q hq => ?_) (N := 3) (treR_len d L F) (by decide) (by decide) (M := 400) (treR_cell hd' (unhide HG) F) (by decide) (by omega) (by omega)
                have hc3 : c = 0 ∨ c = 1 ∨ c = 2 := by
                  have := (List.getElem?_eq_some_iff.1 hq).1
                  simp at this
                  omega
                rw [cell_at hh9]
                rcases hc3 with rfl | rfl | rfl <;> (cases hq; rfl)
              have HB9 : Hid (Below w.heap.size w w9) := by
                have h1 := (unhide HBW2).trans (hA.bel.mono (unhide HBW2).size)
                have h2 := (unhide HRC wa h1).2.2
                exact h2.trans (b9.mono h2.size)
              have hw9' := hw9.symm
              have HANS2 : Hid (ansW (d : Int) L B = (gridT (rgB [false, true, true]) (treR d L F), 0)) := by
                show _ = _
                rw [unhide HANS, sides_same]
              clear hA HA hJ hrows hrl hcnt hlen hw9 b9 hh9
              go_wp2_with (go_at_call 56; refine (unhide D12).mono ?_; rintro e w8 ⟨rfl, hw8⟩; rw [hw8]; clear hw8 w8)
              go_ret2
              exact ⟨by rw [unhide HANS2]; rfl, unhide HB9⟩
    · have HE : Hid (ansW (d : Int) L B = ([], 67)) := by
        have e : errW (d : Int) L B = 67 := by unfold errW; rw [if_neg (unhide HNB), if_neg (fun h => hG (Ch.ok_good.1 h))]
        show _ = _
        unfold ansW
        rw [e, if_neg (by decide)]
      have HB1 := hide hb1
      clear hb1 D1
      go_wp2_with fail
      go_ret2
      exact ⟨by rw [unhide HE]; rfl, unhide HB1⟩
end Go.Proofs.YtcafhmlpmbkhkaaGreatDoor
