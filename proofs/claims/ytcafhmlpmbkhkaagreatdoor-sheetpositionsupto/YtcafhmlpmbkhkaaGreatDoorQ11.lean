import Derived.Test.YtcafhmlpmbkhkaaGreatDoorQ07
namespace Go.Proofs.YtcafhmlpmbkhkaaGreatDoor
open Go Go.Shelf Go.ChangeShapes Go.WideShapes Go.ChangeAt Go.RowKit Go.Maps
set_option linter.unusedVariables false
set_option linter.unusedSimpArgs false
def resL (F : ByteArray → List Int) : List Ch.Ac → List Int
  | [] => []
  | a :: L => if a.ty = 4 ∨ a.ty = 5 then F (Ch.txN a.nm) ++ resL F L else resL F L
theorem resL_app (F : ByteArray → List Int) : ∀ A B : List Ch.Ac, resL F (A ++ B) = resL F A ++ resL F B
  | [], B => rfl
  | a :: A, B => by
    rw [List.cons_append, resL, resL, resL_app F A B]
    split
    · rw [List.append_assoc]
    · rfl
theorem resL_len {F : ByteArray → List Int} {n : Nat} : ∀ L : List Ch.Ac, (∀ a ∈ L, (F (Ch.txN a.nm)).length ≤ n) → (resL F L).length ≤ L.length * n
  | [], _ => Nat.zero_le _
  | a :: L, h => by
    have h1 := resL_len L (fun b hb => h b (by simp [hb]))
    have h2 := h a (by simp)
    rw [resL, List.length_cons, Nat.add_mul]
    split
    · rw [List.length_append]; omega
    · omega
theorem resL_fit {F : ByteArray → List Int} {P : Int → Prop} : ∀ L : List Ch.Ac, (∀ a ∈ L, ∀ z ∈ F (Ch.txN a.nm), P z) → ∀ z ∈ resL F L, P z
  | [], _, z, hz => by cases hz
  | a :: L, h, z, hz => by
    rw [resL] at hz
    have ih := resL_fit L (fun b hb => h b (by simp [hb]))
    split at hz
    · rcases List.mem_append.1 hz with hz | hz
      · exact h a (by simp) z hz
      · exact ih z hz
    · exact ih z hz
structure RzAt (w : World) (F : ByteArray → List Int) (A : List Ch.Ac) (lv : Value) (W : World) : Prop where
  own : W.ownsRow w.heap.size 2 1 lv (resL F A).length (kN.flat (resL F A))
  bel : Below w.heap.size w W
attribute [local go_sem ↓] ldA_is
set_option maxRecDepth 100000 in
set_option maxHeartbeats 8000000 in
theorem result_any {w : World} {bb : Nat} {pa : Option Addr} {na ca mb n : Nat} {F : ByteArray → List Int} {over : Int} (h : Ba w bb pa na ca mb n F over) {L : List Ch.Ac} (hL : L.length = na) (hLA : ∀ W, w.grownBy W (some bb) → Lies Ch.kA W pa L) (hsz : ∀ a ∈ L, (Ch.txN a.nm).size ≤ 1048576) (hty : ∀ a ∈ L, fits64 a.ty) (hna : na ≤ 100) (hn : n ≤ 1048576) :
    Calls Tryz.prog 115 #[.pointer (some ⟨bb, 0, none⟩)] w (fun e w' => e = .returned (.int .i64 (-(sumL (resL F L)).1)) ∧ Ba w' bb pa na ca mb n F (orE over (sumL (resL F L)).2) ∧ w.grownBy w' (some bb)) := by
  have hbw : bb < w.heap.size := h.inh
  have c0 : w.cell? ⟨bb, 0, none⟩ = some (.slice pa na ca) := by rw [cell_at h.blk]; rfl
  have HFB : Hid (∀ a ∈ L, (F (Ch.txN a.nm)).length ≤ n ∧ ∀ z ∈ F (Ch.txN a.nm), fits64 z) := fun a ha => by
    obtain ⟨v, _, _, hf, hl, _⟩ := h.gp.look (Ch.txN a.nm) (by have := hsz a ha; unfold maxLen; omega) (by unfold maxLen; omega)
    exact ⟨hl, hf⟩
  have H0 : Hid (RzAt w F [] (.slice none 0 0) w) := ⟨World.ownsRow_nil _ _ _ _, Below.refl _ _⟩
  have HB := hide h
  have HBW := hide hbw; have HL := hide hL; have HLA := hide hLA; have HSZ := hide hsz; have HTY := hide hty; have HNA := hide hna; have HN := hide hn
  clear h hL hLA hsz hty hbw hn
  go_enter Tryz.func115, Tryz.ntmps115
  go_wp2_with fail
  clear c0
  go_loopw [3, 11] (fun lv iv W => ∃ (k : Nat) (K : Int), k ≤ na ∧ iv = .int .i64 K ∧ K = (k : Int) ∧ (∃ p m c, lv = .slice p m c) ∧ Hid (RzAt w F (L.take k) lv W)) (fun _ iv _ => ((na : Int) - intOf iv).toNat)
  case atStart => exact ⟨0, 0, by omega, rfl, rfl, ⟨_, _, _, rfl⟩, unhide H0⟩
  case round =>
    obtain ⟨wo, rfl⟩ : ∃ x, x = wr := ⟨wr, rfl⟩
    obtain ⟨k, K, hk, rfl, hK, ⟨p, m, c, rfl⟩, HA⟩ := hrel
    by_cases hlt : k < na
    · have hI : K < (na : Int) := by omega
      have hK0 : 0 ≤ K := by omega
      have hKt : K.toNat = k := by omega
      have hkL : k < L.length := by have := unhide HL; omega
      obtain ⟨b, o, ep, hb, hld⟩ := lies_ldA (unhide HLA wo (grown_below _ (unhide HA).bel)) hkL
      obtain ⟨x, hx⟩ : ∃ x, x = L[k] := ⟨_, rfl⟩
      rw [← hx] at hld
      have hxm : x ∈ L := by rw [hx]; exact List.getElem_mem hkL
      have hTK : L.take (k + 1) = L.take k ++ [x] := by rw [List.take_succ_eq_append_getElem hkL, ← hx]
      obtain ⟨w1, hw1⟩ : ∃ W, W = wo.alloc (obA x) := ⟨_, rfl⟩
      have b1 : Below wo.heap.size wo w1 := by rw [hw1]; exact bal (Below.refl _ _) _
      have hh1 : w1.heap[wo.heap.size]? = some (obA x) := by rw [hw1]; exact heap_new _ _
      have hbo : Below w.heap.size w wo := (unhide HA).bel
      have hA1 : RzAt w F (L.take k) (.slice p m c) w1 := ⟨own_below (unhide HA).own b1, hbo.trans (b1.mono hbo.size)⟩
      have hxs : (Ch.txN x.nm).size ≤ 1048576 := unhide HSZ x hxm
      have hxt := unhide HTY x hxm
      have hxf := unhide HFB x hxm
      obtain ⟨T, hT⟩ : ∃ z, z = x.ty := ⟨_, rfl⟩
      obtain ⟨N, hN⟩ : ∃ z, z = Ch.txN x.nm := ⟨_, rfl⟩
      have e0 : w1.cell? ⟨wo.heap.size, 0, none⟩ = some (.string N) := by rw [cell_at hh1, hN]; rfl
      have e1 : w1.cell? ⟨wo.heap.size, 1, none⟩ = some (.int .i64 T) := by rw [cell_at hh1, hT]; rfl
      have hw1' : wo.alloc (.cells #[.string N, .int .i64 T, .int .i64 x.dy, .bool x.cl] 139) = w1 := by rw [hw1, hN, hT]; rfl
      rw [← hT] at hxt
      rw [← hN] at hxs hxf
      have hlw : wo.heap.size < w1.heap.size := (Array.getElem?_eq_some_iff.1 hh1).1
      unfold cvA at hld
      rw [← hN, ← hT] at hld
      subst ep
      have HK := hide hK; have HA1 := hide hA1; have HTK := hide hTK; have HTT := hide hT; have HNN := hide hN; have HH1 := hide hh1; have HLW := hide hlw; have HXS := hide hxs; have HXF := hide hxf
      have HKN := hide hk
      clear hkL hlt hK hx hxm hw1 b1 hA1 hTK hT hN hh1 HA hb hlw hxs hxf hbo
      by_cases hc : T = 4 ∨ T = 5
      · have HNEWL : Hid (resL F (L.take (k + 1)) = resL F (L.take k) ++ F N) := by
          show _ = _
          rw [unhide HTK, resL_app, resL, if_pos (by rw [← unhide HTT]; exact hc), ← unhide HNN, resL, List.append_nil]
        obtain ⟨wd, hwd⟩ : ∃ W, W = w1.drew := ⟨_, rfl⟩
        have bd : Below w1.heap.size w1 wd := by rw [hwd]; exact below_drewN (Below.refl _ _) 1
        have hbwd : Below w.heap.size w wd := (unhide HA1).bel.trans (bd.mono (unhide HA1).bel.size)
        have had := (unhide HB).below hbwd
        have hhd := (bd.block _ (unhide HLW)).trans (unhide HH1)
        obtain ⟨v, hlook, hown, hfit, hlen, -⟩ := had.gp.look N (by have := unhide HXS; unfold maxLen; omega) (by have := unhide HN; unfold maxLen; omega)
        have hlooks := had.gp.looks N (by have := unhide HXS; unfold maxLen; omega) hlook
        obtain ⟨pv, cv, ev, hpn, _⟩ := row_slice hown
        subst ev
        have hlies : Lies kN wd pv (F N) := own_lies kN_ok rfl hown
        have hod := own_below (unhide HA1).own bd
        obtain ⟨p', c', w5, r5, o5, b5, k5, q5⟩ := run_app kN_ok (L := resL F (L.take k)) (M := F N) 92 hod hbwd.size pv cv (fun h => (hpn h).2) hlies (by
          have h1 := resL_len (n := n) (L.take k) (fun a ha => (unhide HFB a (List.mem_of_mem_take ha)).1)
          have h2 : (L.take k).length ≤ 100 := by rw [List.length_take]; have := unhide HL; omega
          have h3 := Nat.mul_le_mul h2 (unhide HN)
          have := unhide HN
          omega)
        have HSS : Hid (∀ W : World, Below w.heap.size w W → W.heap[wo.heap.size]? = some (obA x) → W.cell? ⟨bb, 1, none⟩ = some (.map (some mb)) ∧ W.cell? ⟨wo.heap.size, 0, none⟩ = some (.string N) ∧ (Instr.lookup 148 (.map (some mb)) (.string N) false).run Tryz.prog W = .ok (.slice pv (F N).length cv) W) := fun W h4 h3 => by
          unfold obA at h3
          have h5 := ((unhide HB).below h4).blk
          unfold balO at h5
          have hm : mb < w.heap.size := (unhide HB).gp.lt
          exact ⟨by rw [cell_at h5]; rfl, by rw [cell_at h3, unhide HNN]; rfl, hlooks W ((h4.block _ hm).trans (hbwd.block _ hm).symm)⟩
        have hb5 : Below w.heap.size w w5 := hbwd.trans b5
        have hh5 : w5.heap[wo.heap.size]? = some (obA x) := (k5 _ (Array.getElem?_eq_some_iff.1 hhd).1 (not_own hod hhd (by decide))).trans hhd
        have Q1 := unhide HSS wd hbwd hhd
        have S1 := hide Q1
        have S5 := hide (unhide HSS w5 hb5 hh5)
        have HNEW : Hid (RzAt w F (L.take (k + 1)) (.slice p' ((resL F (L.take k)).length + (F N).length) c') w5) := by
          refine ⟨?_, hb5⟩
          rw [unhide HNEWL, List.length_append]
          exact o5
        have em : m = (resL F (L.take k)).length := by
          obtain ⟨_, _, e, _⟩ := row_slice hod
          injection e
        subst em
        have HR5 := hide r5
        have HWD := hide hwd
        rw [hwd] at Q1
        clear hwd had hhd bd hlook hown hfit hlen hlooks hlies r5 o5 b5 k5 q5 hb5 hh5 hod hpn hbwd
        rcases hc with rfl | rfl
        all_goals
          go_upto_region 6 with fail
          clear hld hw1' e0 e1
          refine wp_region_last (n := 10) (S := fun W => W.cell? ⟨bb, 1, none⟩ = some (.map (some mb)) ∧ W.cell? ⟨wo.heap.size, 0, none⟩ = some (.string N) ∧ (Instr.lookup 148 (.map (some mb)) (.string N) false).run Tryz.prog W = .ok (.slice pv (F N).length cv) W) (by kernel_rfl) Q1 (fun hHeld => ?_)
          clear hHeld Q1
          rw [← unhide HWD]
          have Q1 := unhide S1
          refine tkW 0 ?_; refine tkW 1 ?_; refine tkW 2 ?_; refine tkW 3 ?_
          refine tkN 4 ?_ (hy := by (refine Or.inl ⟨by rfl, ?_⟩; intro W hSW; obtain ⟨hA, hB, hC⟩ := hSW; go_simp; try with_reducible rfl))
          refine tkW 5 ?_
          refine tkN 6 ?_ (hy := by (refine Or.inl ⟨by rfl, ?_⟩; intro W hSW; obtain ⟨hA, hB, hC⟩ := hSW; go_simp; try with_reducible rfl))
          refine tkN 7 ?_ (hy := by (refine Or.inl ⟨by rfl, ?_⟩; intro W hSW; obtain ⟨hA, hB, hC⟩ := hSW; go_simp; try with_reducible rfl))
          clear Q1
          refine wpAnyL_one (i := 8) (by kernel_rfl) rfl (fun KK hKK => ?_)
          refine step_append_run _ (by rfl) _ _ 92 (by rfl) _ _ _ _ (by rfl) (by rfl) (unhide HR5) ?_
          refine hKK.out _ _ (unhide S5) (fun hHeld => ?_)
          clear hKK KK
          refine tkW 9 ?_
          clear hHeld
          refine wpAnyL_done (by kernel_rfl) ?_
          go_wp2_with fail
          exact ⟨⟨k + 1, K + 1, by omega, by go_num, by have := unhide HK; omega, ⟨_, _, _, rfl⟩, unhide HNEW⟩, by have := unhide HK; simp [intOf]; omega⟩
      · have e4 : (T == 4) = false := beq_eq_false_iff_ne.2 (fun h => hc (.inl h))
        have e5 : (T == 5) = false := beq_eq_false_iff_ne.2 (fun h => hc (.inr h))
        have HNEW : Hid (RzAt w F (L.take (k + 1)) (.slice p m c) w1) := by
          have h := unhide HA1
          have e2 : resL F (L.take (k + 1)) = resL F (L.take k) := by rw [unhide HTK, resL_app, resL, if_neg (by rw [← unhide HTT]; exact hc), resL, List.append_nil]
          exact ⟨by rw [e2]; exact h.own, h.bel⟩
        clear hc e0
        go_wp2_with fail
        exact ⟨⟨k + 1, K + 1, by omega, by go_num, by have := unhide HK; omega, ⟨_, _, _, rfl⟩, unhide HNEW⟩, by have := unhide HK; simp [intOf]; omega⟩
    · have hI : ¬ K < (na : Int) := by omega
      have hkn : k = na := by omega
      subst hkn
      have hA : RzAt w F L (.slice p m c) wo := by
        have h := unhide HA
        rw [List.take_of_length_le (by have := unhide HL; omega)] at h
        exact h
      obtain ⟨p', c', e, _, _⟩ := row_slice hA.own
      obtain ⟨rfl, rfl, rfl⟩ : p = p' ∧ m = (resL F L).length ∧ c = c' := by cases e; exact ⟨rfl, rfl, rfl⟩
      have D := hide (sumb_any ((unhide HB).below hA.bel) (c := c) rfl (own_lies kN_ok rfl hA.own) (resL_fit L (fun a ha => (unhide HFB a ha).2)) (by
        have h1 := resL_len (n := n) L (fun a ha => (unhide HFB a ha).1)
        have h3 := Nat.mul_le_mul hna (unhide HN)
        have := unhide HL
        rw [this] at h1
        omega))
      have HBL := hide hA.bel
      obtain ⟨s, hs⟩ : ∃ z, z = (sumL (resL F L)).1 := ⟨_, rfl⟩
      have hsA : isA s := by rw [hs]; exact sumL_isA _
      have hs1 := hsA.1; have hs2 := hsA.2
      have HS := hide hs
      clear HA hK hA e hsA hs
      go_wp2_with fail
      refine (unhide D).mono ?_
      rintro e w2 ⟨rfl, hB2, hg2⟩
      have HE : Hid (Ba w2 bb pa k ca mb n F (orE over (sumL (resL F L)).2) ∧ w.grownBy w2 (some bb)) := ⟨hB2, (grown_below _ (unhide HBL)).trans hg2⟩
      rw [← unhide HS]
      clear hB2 hg2 D
      go_wp2_with fail
      go_ret
      refine ⟨?_, unhide HE⟩
      rw [← unhide HS]
      rfl
end Go.Proofs.YtcafhmlpmbkhkaaGreatDoor
namespace Go.Proofs.YtcafhmlpmbkhkaaGreatDoor
open Go Go.Shelf Go.ChangeShapes Go.WideShapes Go.ChangeAt Go.RowKit Go.Maps
set_option linter.unusedVariables false
set_option linter.unusedSimpArgs false
def tiA : ByteArray := txB [65, 115, 115, 101, 116]
def tiD : ByteArray := txB [76, 105, 97, 98, 105, 108, 105, 116, 121]
def tiE : ByteArray := txB [69, 113, 117, 105, 116, 121]
def tiT : ByteArray := txB [84, 111, 116, 97, 108]
def tiR : ByteArray := txB [32, 32, 82, 101, 115, 117, 108, 116]
def posR (d : Nat) (A D E : List Lm) (a b c t : Int) : List (List Tx) := blkR tiA A a d ++ blkR tiD D b d ++ blkR tiE E c d ++ [[tiT.data.toList, txt t d]]
def psS (F : ByteArray → List Int) (L : List Ch.Ac) : Int := -(sumL (resL F L)).1
def psA (F : ByteArray → List Int) (L : List Ch.Ac) : List Lm := blkL F 1 L
def psD (F : ByteArray → List Int) (L : List Ch.Ac) : List Lm := blkL F 2 L
def psE (F : ByteArray → List Int) (L : List Ch.Ac) : List Lm := blkL F 3 L ++ [⟨tiR, psS F L⟩]
def sL (X : List Lm) : Int × Int := sumL (X.map Lm.amt)
def psT (F : ByteArray → List Int) (L : List Ch.Ac) : Int × Int := sumL [(sL (psD F L)).1, (sL (psE F L)).1]
def psO1 (F : ByteArray → List Int) (L : List Ch.Ac) : Int := orE (blkE F 3 (blkE F 2 (blkE F 1 0 L) L) L) (sumL (resL F L)).2
def psO (F : ByteArray → List Int) (L : List Ch.Ac) : Int := orE (orE (orE (orE (psO1 F L) (sL (psA F L)).2) (sL (psD F L)).2) (sL (psE F L)).2) (psT F L).2
noncomputable def hdrP (day : Int) : Tx := [65, 116, 32] ++ dtx day ++ [10]
noncomputable def posT (d : Nat) (L : List Ch.Ac) (F : ByteArray → List Int) (day : Int) : Tx := hdrP day ++ gridT (rgt [0, 1]) (posR d (psA F L) (psD F L) (psE F L) (sL (psA F L)).1 (sL (psD F L)).1 (sL (psE F L)).1 (psT F L).1)
open Classical in
noncomputable def errP (dg : Int) (L : List Ch.Ac) (R : List Po) (day : Int) : Int :=
  if dg < 0 ∨ 6 < dg ∨ isDb day = false then 1 else if errC L R ≠ 0 then errC L R else psO (cntF R 1 day) L
noncomputable def ansP (dg : Int) (L : List Ch.Ac) (R : List Po) (day : Int) : Tx × Int := if errP dg L R day = 0 then (posT dg.toNat L (cntF R 1 day) day, 0) else ([], errP dg L R day)
theorem sL_isA (X : List Lm) : isA (sL X).1 := sumL_isA _
theorem isA_neg {z : Int} (h : isA z) : isA (-z) := by unfold isA at *; omega
theorem psE_isA (F : ByteArray → List Int) (L : List Ch.Ac) : ∀ x ∈ psE F L, isA x.amt := fun x hx => by
  unfold psE at hx
  rcases List.mem_append.1 hx with hx | hx
  · exact blkL_isA F 3 L x hx
  · rw [List.mem_singleton] at hx
    subst hx
    exact isA_neg (sumL_isA _)
theorem psE_len (F : ByteArray → List Int) (L : List Ch.Ac) : (psE F L).length = (blkL F 3 L).length + 1 := by
  unfold psE
  rw [List.length_append, List.length_singleton]
theorem tx_size (b : ByteArray) : b.data.toList.length = b.size := by simp
theorem psE_lab {L : List Ch.Ac} (h : ∀ a ∈ L, (Ch.txN a.nm).size ≤ 101) (F : ByteArray → List Int) : ∀ x ∈ psE F L, x.lab.size ≤ 200 := fun x hx => by
  unfold psE at hx
  rcases List.mem_append.1 hx with hx | hx
  · exact blkL_lab h F 3 x hx
  · rw [List.mem_singleton] at hx
    subst hx
    show tiR.size ≤ 200
    unfold tiR
    rw [txB_len]; decide
theorem posR_two (d : Nat) (A D E : List Lm) (a b c t : Int) : ∀ q ∈ posR d A D E a b c t, q.length ≤ 2 := by
  intro q hq
  unfold posR at hq
  rw [List.mem_append, List.mem_append, List.mem_append, List.mem_singleton] at hq
  rcases hq with ((hq | hq) | hq) | rfl
  · exact blkR_two _ _ _ _ q hq
  · exact blkR_two _ _ _ _ q hq
  · exact blkR_two _ _ _ _ q hq
  · exact Nat.le_refl _
theorem posR_cell {d : Nat} (hd : d ≤ 6) {A D E : List Lm} (hA : ∀ x ∈ A, x.lab.size ≤ 200) (hD : ∀ x ∈ D, x.lab.size ≤ 200) (hE : ∀ x ∈ E, x.lab.size ≤ 200) (a b c t : Int) : ∀ q ∈ posR d A D E a b c t, ∀ y ∈ q, y.length ≤ 200 := by
  intro q hq
  unfold posR at hq
  rw [List.mem_append, List.mem_append, List.mem_append, List.mem_singleton] at hq
  rcases hq with ((hq | hq) | hq) | rfl
  · exact blkR_cell hd (by unfold tiA; rw [txB_len]; decide) hA _ q hq
  · exact blkR_cell hd (by unfold tiD; rw [txB_len]; decide) hD _ q hq
  · exact blkR_cell hd (by unfold tiE; rw [txB_len]; decide) hE _ q hq
  · intro y hy
    simp only [List.mem_cons, List.not_mem_nil, or_false] at hy
    rcases hy with rfl | rfl
    · rw [tx_size]; unfold tiT; rw [txB_len]; decide
    · have := txt_len t d hd; omega
theorem posR_count (d : Nat) (A D E : List Lm) (a b c t : Int) : (posR d A D E a b c t).length = A.length + D.length + E.length + 7 := by
  unfold posR
  rw [List.length_append, List.length_append, List.length_append, blkR_len, blkR_len, blkR_len, List.length_singleton]
  omega
end Go.Proofs.YtcafhmlpmbkhkaaGreatDoor
namespace Go.Proofs.YtcafhmlpmbkhkaaGreatDoor
open Go Go.Shelf Go.ChangeShapes Go.WideShapes Go.ChangeAt Go.RowKit Go.Maps
set_option linter.unusedVariables false
set_option linter.unusedSimpArgs false
theorem Ba.app {W W' : World} {bb : Nat} {pa : Option Addr} {na ca mb n : Nat} {F : ByteArray → List Int} {over : Int} (h : Ba W bb pa na ca mb n F over) {B m : Nat} {v : Value} {xs : List Value} (ho : W.ownsRow B 166 2 v m xs) (hB : bb < B) (hb : Below B W W') (hk : ∀ k, k < W.heap.size → v.ownBlock ≠ some k → W'.heap[k]? = W.heap[k]?) : Ba W' bb pa na ca mb n F over :=
  ⟨(hb.block _ hB).trans h.blk, h.gp.keepT (row := v.ownBlock) ⟨hb.os, hb.tape, hb.output, hb.size, fun j hj hne => hk j hj (fun e => hne e.symm)⟩ 166 (by decide) (fun j hj => by
    obtain ⟨ys, hy⟩ := own_obj ho hj
    exact ⟨ys, _, hy⟩), h.lt⟩
theorem grw_belo {w4 W W' : World} {kb : Nat} (h : w4.grownBy W (some kb)) (hb : Below w4.heap.size W W') : w4.grownBy W' (some kb) :=
  ⟨hb.os.trans h.os, hb.tape.trans h.tape, hb.output.trans h.output, Nat.le_trans h.size hb.size, fun j hj hne => (hb.block j hj).trans (h.block j hj hne)⟩
set_option maxRecDepth 100000 in
set_option maxHeartbeats 16000000 in
theorem position_bad {w : World} {pa : Option Addr} {na ca : Nat} {L : List Ch.Ac} {pr : Option Addr} {nr cr : Nat} {R : List Po} (day : Int) (hday : fits64 day) (dg : Int) (hdg : fits64 dg) (hb : dg < 0 ∨ 6 < dg ∨ isDb day = false) :
    Calls Tryz.prog 30 #[.slice pa na ca, .slice pr nr cr, .int .i64 day, .int .i64 dg] w (TriOut w (ansP dg L R day)) := by
  have HE : Hid (ansP dg L R day = ([], 1)) := by
    have e : errP dg L R day = 1 := by unfold errP; rw [if_pos hb]
    show _ = _
    unfold ansP
    rw [e, if_neg (by decide)]
  have HB : Hid (Below w.heap.size w w) := Below.refl _ _
  obtain ⟨df, hdf⟩ : ∃ b, b = isDb day := ⟨_, rfl⟩
  have DF := hide (isDay_any day w)
  rw [← hdf] at DF hb
  clear hdf
  by_cases hbad : dg < 0 ∨ 6 < dg
  · have D := hide (digits_no dg w hbad)
    clear hb hbad
    go_enter Tryz.func30, Tryz.ntmps30
    go_wp2_with (go_at_call 37; refine (unhide D).mono ?_; rintro e wz ⟨rfl, hwz⟩; rw [hwz]; clear hwz wz)
    go_ret2
    exact ⟨by rw [unhide HE]; rfl, unhide HB⟩
  · have D := hide (digits_yes dg w (by omega) (by omega))
    have hdf : df = false := by
      rcases hb with h | h | h
      · exact absurd (.inl h) hbad
      · exact absurd (.inr h) hbad
      · exact h
    subst hdf
    clear hb hbad
    go_enter Tryz.func30, Tryz.ntmps30
    go_wp2_with first | (go_at_call 37; refine (unhide D).mono ?_; rintro e wz ⟨rfl, hwz⟩; rw [hwz]; clear hwz wz) | (go_at_call 75; refine (unhide DF).mono ?_; rintro e wz ⟨rfl, hwz⟩; rw [hwz]; clear hwz wz)
    go_ret2
    exact ⟨by rw [unhide HE]; rfl, unhide HB⟩
attribute [local go_sem ↓] ldP_is
set_option maxRecDepth 100000 in
set_option maxHeartbeats 16000000 in
theorem position_good {w : World} (hP : Kg.Pw w) (hM : Dy.Mon w) {pa : Option Addr} {na ca : Nat} {L : List Ch.Ac} (hL : L.length = na) (hLL : Lies Ch.kA w pa L) (hna : na ≤ 1048576) (hsz : ∀ a ∈ L, (Ch.txN a.nm).size ≤ 1048576) (hty : ∀ a ∈ L, fits64 a.ty) {pr : Option Addr} {nr cr : Nat} {R : List Po} (hR : R.length = nr) (hLR : Lies kU w pr R) (hok : ∀ r ∈ R, PoOk r) (hnr : nr ≤ 1048576) (day : Int) (d : Nat) (hd : d ≤ 6) (hdf : isDb day = true) :
    Calls Tryz.prog 30 #[.slice pa na ca, .slice pr nr cr, .int .i64 day, .int .i64 (d : Int)] w (TriOut w (ansP (d : Int) L R day)) := by
  have hfD := (isDb_iff day).1 hdf
  have HNB : Hid (¬ ((d : Int) < 0 ∨ 6 < (d : Int) ∨ isDb day = false)) := by show ¬ _; rw [hdf]; simp; omega
  have D0 := hide (digits_yes (d : Int) w (by omega) (by omega))
  have DF := hide (isDay_any day w)
  rw [hdf] at DF
  have DC := hide (counted_any (ca := ca) (cr := cr) hL hLL hna (fun a ha => by have := hsz a ha; omega) hR hLR hok hnr 1 day (by unfold fits64; omega) (by unfold fits64; unfold isD at hfD; omega))
  have HLL := hide hLL; have HL := hide hL; have HSZ := hide hsz; have HTY := hide hty; have HPW := hide hP; have HMO := hide hM; have HNA := hide hna; have HFD := hide hfD; have HR := hide hR; have HNR := hide hnr
  have b1 : 1 ≤ day ∧ day ≤ 3652059 := hfD
  clear hfD hdf hP hM hL hLL hna hsz hty hR hLR hok hnr
  go_enter Tryz.func30, Tryz.ntmps30
  go_wp2_with first | (go_at_call 37; refine (unhide D0).mono ?_; rintro e wz ⟨rfl, hwz⟩; rw [hwz]; clear hwz wz D0) | (go_at_call 75; refine (unhide DF).mono ?_; rintro e wz ⟨rfl, hwz⟩; rw [hwz]; clear hwz wz DF)
  refine (unhide DC).mono ?_
  rintro e w1 ⟨⟨hez, bb, mb, rfl, hblk, hgp, hwm, hmb⟩ | ⟨hez, rfl⟩, hb1⟩
  · have hba : Ba w1 bb pa na ca mb R.length (cntF R 1 day) 0 := ⟨hblk, hgp, hmb⟩
    obtain ⟨F, hF⟩ : ∃ F, F = cntF R 1 day := ⟨_, rfl⟩
    rw [← hF] at hba
    have hbb1 := hba.inh
    have hwbb : w.heap.size ≤ bb := by omega
    have HW : Hid (∀ W W' : World, Below w.heap.size w W → bb < W.heap.size → W.grownBy W' (some bb) → Below w.heap.size w W') := fun W W' h1 h2 h3 => h1.trans (grown_bel h3 hwbb h2)
    have HLA : Hid (∀ W, Below w.heap.size w W → Lies Ch.kA W pa L) := fun W hb => (unhide HLL).below hb
    have HNR2 : Hid (R.length ≤ 1048576) := by have := unhide HR; have := unhide HNR; show _ ≤ _; omega
    have HEZ : Hid (errC L R = 0) := hez
    have HFV := hide hF
    have HB1 := hide hb1
    have DB := hide (block_any hba (unhide HL) (fun W hW => unhide HLA W (unhide HW _ _ hb1 hbb1 hW)) (unhide HSZ) (unhide HTY) (unhide HNA) (unhide HNR2) 1 (by unfold fits64; omega))
    have HBB1 := hide hbb1; have HWBB := hide hwbb
    have fitA : ∀ t : Int, ∀ x ∈ blkL F t L, fits64 x.amt := fun t x hx => by
      have := blkL_isA F t L x hx
      unfold isA at this
      unfold fits64
      omega
    have fitE : ∀ x ∈ psE F L, fits64 x.amt := fun x hx => by
      have := psE_isA F L x hx
      unfold isA at this
      unfold fits64
      omega
    have HFA := hide fitA; have HFE := hide fitE
    have HLT : Hid (∀ t, (blkL F t L).length ≤ 1048576) := fun t => by have h1 := blkL_len F t L; have := unhide HL; have := unhide HNA; omega
    clear hba hblk hgp hwm hmb hez hb1 hF hbb1 hwbb DC fitA fitE
    go_wp2_with fail
    refine (unhide DB).mono ?_
    rintro e w2 ⟨pA', cA, rfl, hA2⟩
    have hb2 := unhide HW _ _ (unhide HB1) (unhide HBB1) hA2.grw
    have hbb2 := hA2.ba.inh
    obtain ⟨nA, hnA⟩ : ∃ n, n = (blkL F 1 L).length := ⟨_, rfl⟩
    have hoA := hA2.own
    rw [← hnA] at hoA ⊢
    have DB2 := hide (block_any hA2.ba (unhide HL) (fun W hW => unhide HLA W (unhide HW _ _ hb2 hbb2 hW)) (unhide HSZ) (unhide HTY) (unhide HNA) (unhide HNR2) 2 (by unfold fits64; omega))
    have HOA := hide hoA; have HB2 := hide hb2; have HBB2 := hide hbb2; have HNLA := hide hnA
    clear hoA hb2 hbb2 hnA hA2 DB
    go_wp2_with fail
    refine (unhide DB2).mono ?_
    rintro e w3 ⟨pD', cD, rfl, hA3⟩
    have hb3 := unhide HW _ _ (unhide HB2) (unhide HBB2) hA3.grw
    have hbb3 := hA3.ba.inh
    obtain ⟨nD, hnD⟩ : ∃ n, n = (blkL F 2 L).length := ⟨_, rfl⟩
    have hoD := hA3.own
    rw [← hnD] at hoD ⊢
    have HOA3 := hide (own_grown (unhide HOA) (unhide HBB1) hA3.grw)
    have DB3 := hide (block_any hA3.ba (unhide HL) (fun W hW => unhide HLA W (unhide HW _ _ hb3 hbb3 hW)) (unhide HSZ) (unhide HTY) (unhide HNA) (unhide HNR2) 3 (by unfold fits64; omega))
    have HOD := hide hoD; have HB3 := hide hb3; have HBB3 := hide hbb3; have HNLD := hide hnD
    clear hoD hb3 hbb3 hnD hA3 DB2 HOA
    go_wp2_with fail
    refine (unhide DB3).mono ?_
    rintro e w4 ⟨pE', cE, rfl, hA4⟩
    have hb4 := unhide HW _ _ (unhide HB3) (unhide HBB3) hA4.grw
    have hbb4 := hA4.ba.inh
    obtain ⟨nE, hnE⟩ : ∃ n, n = (blkL F 3 L).length := ⟨_, rfl⟩
    have hoE := hA4.own
    rw [← hnE] at hoE ⊢
    have DB4 := result_any hA4.ba (unhide HL) (fun W hW => unhide HLA W (unhide HW _ _ hb4 hbb4 hW)) (unhide HSZ) (unhide HTY) (by rw [← unhide HL]; exact (errC_good (unhide HEZ)).len) (unhide HNR2)
    have HOE := hide hoE; have HNLE := hide hnE; have HG4 := hide hA4.grw
    obtain ⟨rs, hrs⟩ : ∃ z, z = (sumL (resL F L)).1 := ⟨_, rfl⟩
    rw [← hrs] at DB4
    have DB4 := hide DB4
    have HRS : Hid (psS F L = -rs) := by show _ = _; unfold psS; rw [hrs]
    clear hoE hb4 hbb4 hnE hA4 DB3 hrs
    go_wp2_with (go_at_call 115; refine (unhide DB4).mono ?_)
    rintro e w5 ⟨rfl, hB5, hg5⟩
    have hoE5 := own_grown (unhide HOE) (unhide HBB3) hg5
    obtain ⟨w6, hw6⟩ : ∃ W, W = w5.alloc (.cells #[.string tiR, .int .i64 (-rs)] 166) := ⟨_, rfl⟩
    have b56 : Below w5.heap.size w5 w6 := by rw [hw6]; exact bal (Below.refl _ _) _
    have hoE6 := own_below hoE5 b56
    have hg46 : w3.grownBy w6 (some bb) := ((unhide HG4).trans hg5).trans (grown_below _ b56)
    obtain ⟨pE7, cE7, w7, r7, o7, b7, k7, q7⟩ := run_app kL_ok (L := blkL F 3 L) (M := [(⟨tiR, -rs⟩ : Lm)]) 133 hoE6 hg46.size (some ⟨w5.heap.size, 0, none⟩) 1 (fun h => by cases h) (by rw [hw6]; exact one_lies w5 (⟨tiR, -rs⟩ : Lm) 166 _ rfl) (by
      have h1 := unhide HLT 3
      rw [← unhide HNLE] at h1
      simp only [List.length_singleton]
      omega)
    simp only [List.length_singleton] at r7 o7 q7
    have hPE : blkL F 3 L ++ [(⟨tiR, -rs⟩ : Lm)] = psE F L := by unfold psE; rw [unhide HRS]
    rw [hPE] at o7
    have hB7 := Ba.app (hB5.below b56) hoE6 (unhide HBB3) b7 k7
    have hg7 : w3.grownBy w7 (some bb) := grw_belo hg46 b7
    have hb7 := unhide HW _ _ (unhide HB3) (unhide HBB3) hg7
    have hoA7 := own_grown (unhide HOA3) (unhide HBB1) hg7
    have hoD7 := own_grown (unhide HOD) (unhide HBB2) hg7
    have hlE7 : (psE F L).length = nE + 1 := by rw [psE_len, ← unhide HNLE]
    have DS1 := hide (sumOf_any hB7 (c := cA) (unhide HNLA).symm (own_lies kL_ok (unhide HNLA).symm hoA7) (unhide HFA 1) (by have := unhide HLT 1; rw [← unhide HNLA] at this; omega))
    have hw6' : w5.alloc (.cells #[.string ⟨#[32, 32, 82, 101, 115, 117, 108, 116]⟩, .int .i64 (-rs)] 166) = w6 := by rw [hw6]; rfl
    have HRUN7 := hide r7; have HOA7 := hide hoA7; have HOD7 := hide hoD7; have HOE7 := hide o7; have HB7 := hide hb7; have HBB7 := hide hB7.inh; have HLE7 := hide hlE7
    have HT7 : Hid (∀ W, w7.grownBy W (some bb) → W.ownsRow w1.heap.size 166 2 (.slice pA' nA cA) nA (kL.flat (blkL F 1 L)) ∧ W.ownsRow w2.heap.size 166 2 (.slice pD' nD cD) nD (kL.flat (blkL F 2 L)) ∧ W.ownsRow w3.heap.size 166 2 (.slice pE7 (nE + 1) cE7) (nE + 1) (kL.flat (psE F L)) ∧ Below w.heap.size w W) := fun W hW => ⟨own_grown hoA7 (unhide HBB1) hW, own_grown hoD7 (unhide HBB2) hW, own_grown o7 (unhide HBB3) hW, unhide HW _ _ hb7 hB7.inh hW⟩
    clear hw6 b56 hoE5 hoE6 hg46 r7 o7 b7 k7 q7 hPE hg7 hb7 hoA7 hoD7 hlE7 hB5 hg5 hB7 DB4
    go_wp2_with (at_builtin; refine wpList_append_run rfl _ _ 133 rfl _ _ _ _ rfl rfl (unhide HRUN7) ?_; clear HRUN7)
    refine (unhide DS1).mono ?_
    rintro e w8 ⟨rfl, hB8, hg8⟩
    obtain ⟨oA8, oD8, oE8, hb8⟩ := unhide HT7 w8 hg8
    have DS2 := hide (sumOf_any hB8 (c := cD) (unhide HNLD).symm (own_lies kL_ok (unhide HNLD).symm oD8) (unhide HFA 2) (by have := unhide HLT 2; rw [← unhide HNLD] at this; omega))
    obtain ⟨A, hA⟩ : ∃ z, z = (sumL ((blkL F 1 L).map Lm.amt)).1 := ⟨_, rfl⟩
    rw [← hA]
    have HG8 := hide hg8; have HAV := hide hA
    have HAA : Hid (isA A) := by show isA A; rw [hA]; exact sumL_isA _
    clear hB8 hg8 oA8 oD8 oE8 hb8 hA DS1 hw6'
    go_wp2_with fail
    refine (unhide DS2).mono ?_
    rintro e w9 ⟨rfl, hB9, hg9⟩
    have hg79 := (unhide HG8).trans hg9
    obtain ⟨oA9, oD9, oE9, hb9⟩ := unhide HT7 w9 hg79
    have DS3 := hide (sumOf_any hB9 (c := cE7) (unhide HLE7) (own_lies kL_ok (unhide HLE7) oE9) (unhide HFE) (by have := unhide HLT 3; rw [← unhide HNLE] at this; omega))
    obtain ⟨B, hB⟩ : ∃ z, z = (sumL ((blkL F 2 L).map Lm.amt)).1 := ⟨_, rfl⟩
    rw [← hB]
    have HG9 := hide hg79; have HBV := hide hB
    have HBA : Hid (isA B) := by show isA B; rw [hB]; exact sumL_isA _
    clear hB9 hg9 hg79 oA9 oD9 oE9 hb9 hB DS2 HG8
    go_wp2_with fail
    refine (unhide DS3).mono ?_
    rintro e w10 ⟨rfl, hB10, hg10⟩
    have hg710 := (unhide HG9).trans hg10
    obtain ⟨C, hC⟩ : ∃ z, z = (sumL ((psE F L).map Lm.amt)).1 := ⟨_, rfl⟩
    rw [← hC]
    have hCA : isA C := by rw [hC]; exact sumL_isA _
    obtain ⟨w11, hw11⟩ : ∃ W, W = w10.alloc (.cells #[.int .i64 B, .int .i64 C] 2) := ⟨_, rfl⟩
    have b1011 : Below w10.heap.size w10 w11 := by rw [hw11]; exact bal (Below.refl _ _) _
    have hl11 : Lies kN w11 (some ⟨w10.heap.size, 0, none⟩) [B, C] := by
      refine ⟨(fun h => by cases h), fun k hk => ⟨_, _, rfl, by rw [hw11]; simp, fun j u hu => ?_⟩⟩
      have hh : w11.heap[w10.heap.size]? = some (.cells #[.int .i64 B, .int .i64 C] 2) := by rw [hw11]; exact heap_new _ _
      have hj : j = 0 := by
        have := (List.getElem?_eq_some_iff.1 hu).1
        simp [kN] at this
        exact this
      subst hj
      have hk2 : k = 0 ∨ k = 1 := by simp at hk; omega
      rcases hk2 with rfl | rfl <;> (rw [cell_at hh]; simpa [kN] using hu)
    have DS4 := hide (sumb_any (hB10.below b1011) (c := 2) (m := 2) rfl hl11 (fun z hz => by
      simp only [List.mem_cons, List.not_mem_nil, or_false] at hz
      have h1 := unhide HBA
      have h2 := hCA
      unfold isA at h1 h2
      unfold fits64
      rcases hz with rfl | rfl <;> omega) (by decide))
    have HG11 := hide (hg710.trans (grown_below _ b1011)); have HCV := hide hC; have HCA := hide hCA
    have hw11' := hw11.symm
    clear hB10 hg10 hg710 hC hCA hw11 b1011 hl11 DS3 HG9
    go_wp2_with fail
    refine (unhide DS4).mono ?_
    rintro e w12 ⟨rfl, hB12, hg12⟩
    clear hw11' DS4
    have hg712 := (unhide HG11).trans hg12
    obtain ⟨oA12, oD12, oE12, hb12⟩ := unhide HT7 w12 hg712
    obtain ⟨E, hE⟩ : ∃ z, z = (sumL [B, C]).1 := ⟨_, rfl⟩
    rw [← hE]
    have hEA : isA E := by rw [hE]; exact sumL_isA _
    have eA : (sL (psA F L)).1 = A := (unhide HAV).symm
    have eB : (sL (psD F L)).1 = B := (unhide HBV).symm
    have eC : (sL (psE F L)).1 = C := (unhide HCV).symm
    have eT : (psT F L).1 = E := by unfold psT; rw [eB, eC]; exact hE.symm
    have HO : Hid (orE (orE (orE (orE (orE (blkE F 3 (blkE F 2 (blkE F 1 0 L) L) L) (sumL (resL F L)).2) (sumL ((blkL F 1 L).map Lm.amt)).2) (sumL ((blkL F 2 L).map Lm.amt)).2) (sumL ((psE F L).map Lm.amt)).2) (sumL [B, C]).2 = psO F L) := by
      show _ = _
      unfold psO psT psO1
      rw [eB, eC]
      rfl
    rw [unhide HO] at hB12
    obtain ⟨O, hO⟩ : ∃ z, z = psO F L := ⟨_, rfl⟩
    rw [← hO] at hB12
    have cO : w12.cell? ⟨bb, 2, none⟩ = some (.int .i64 O) := by rw [cell_at hB12.blk]; rfl
    have HC12 : Hid (∀ W, Below w12.heap.size w12 W → W.cell? ⟨bb, 2, none⟩ = some (.int .i64 O)) := fun W hb => by rw [cell_at ((hb.block _ hB12.inh).trans hB12.blk)]; rfl
    have HA12 := hide oA12; have HD12 := hide oD12; have HE12 := hide oE12; have HB12 := hide hb12; have HEA := hide hEA; have HOV := hide hO; have HEE := hide hE
    have HEQ : Hid ((sL (psA F L)).1 = A ∧ (sL (psD F L)).1 = B ∧ (sL (psE F L)).1 = C ∧ (psT F L).1 = E) := ⟨eA, eB, eC, eT⟩
    clear oA12 oD12 oE12 hb12 hE hEA hO hB12 hg12 hg712 eA eB eC eT HO HG11
    by_cases hO0 : O = 0
    · subst hO0
      have hG0 : Ch.Good L := errC_good (unhide HEZ)
      have hnm := good_names hG0
      have HLBA := hide (blkL_lab hnm F 1); have HLBD := hide (blkL_lab hnm F 2); have HLBE := hide (psE_lab hnm F)
      clear hnm hG0
      have DN := hide (newPaired_any d w12)
      have hw07 : w.heap.size ≤ w12.heap.size := (unhide HB12).size
      have HW07 := hide hw07
      clear hw07
      go_wp2_with fail
      refine (unhide DN).mono ?_
      rintro e w13 ⟨g, B2, rfl, hB2, hG8, hb8⟩
      clear DN cO HC12
      have hB28 : B2 ≤ w13.heap.size := by
        obtain ⟨ps, cs, pr, cr, L, k⟩ := hG8
        exact Nat.le_trans k.low (Nat.le_of_lt (Array.getElem?_eq_some_iff.1 k.cell).1)
      obtain ⟨w14, hw14⟩ : ∃ W, W = w13.alloc (Go.Proofs.YtcafhmlpmbkhkaaGreatDoor.pO d g) := ⟨_, rfl⟩
      have b89 : Below w13.heap.size w13 w14 := by rw [hw14]; exact bal (Below.refl _ _) _
      have hh9 : w14.heap[w13.heap.size]? = some (Go.Proofs.YtcafhmlpmbkhkaaGreatDoor.pO d g) := by rw [hw14]; exact heap_new _ _
      have hG9 := hG8.below b89
      have hb79 : Below w12.heap.size w12 w14 := hb8.trans (b89.mono hb8.size)
      have hA9 := own_below (unhide HA12) hb79
      have hD9 := own_below (unhide HD12) hb79
      have hE9 := own_below (unhide HE12) hb79
      have hbw9 : Below w.heap.size w w14 := (unhide HB12).trans (hb79.mono (unhide HB12).size)
      obtain ⟨pb, hpb⟩ : ∃ q, q = w13.heap.size := ⟨_, rfl⟩
      rw [← hpb] at hh9
      have hwB2 : w.heap.size ≤ B2 := Nat.le_trans (unhide HW07) hB2
      have HGP : Hid (∀ W, Gd B2 w14 W → W.heap[pb]? = some (Go.Proofs.YtcafhmlpmbkhkaaGreatDoor.pO d g) ∧ Below w.heap.size w W) := fun W hW => ⟨(hW.kept _ _ _ _ hh9 (by decide) (by decide)).trans hh9, hbw9.trans (hW.bel.mono hwB2)⟩
      have HGA : Hid (∀ W, Gd B2 w14 W → Lies kL W pA' (blkL F 1 L) ∧ Kg.Pw W) := fun W hW => ⟨own_lies kL_ok (unhide HNLA).symm (gd_own hA9 hW (by decide) (by decide)), (unhide HPW).below (hbw9.trans (hW.bel.mono hwB2))⟩
      have HGD : Hid (∀ W, Gd B2 w14 W → Lies kL W pD' (blkL F 2 L) ∧ Kg.Pw W) := fun W hW => ⟨own_lies kL_ok (unhide HNLD).symm (gd_own hD9 hW (by decide) (by decide)), (unhide HPW).below (hbw9.trans (hW.bel.mono hwB2))⟩
      have HGE : Hid (∀ W, Gd B2 w14 W → Lies kL W pE7 (psE F L) ∧ Kg.Pw W) := fun W hW => ⟨own_lies kL_ok (unhide HLE7) (gd_own hE9 hW (by decide) (by decide)), (unhide HPW).below (hbw9.trans (hW.bel.mono hwB2))⟩
      have lA := unhide HLT 1; have lD := unhide HLT 2; have lE := unhide HLT 3
      rw [← unhide HNLA] at lA
      rw [← unhide HNLD] at lD
      rw [← unhide HNLE] at lE
      have HLA' := hide lA; have HLD' := hide lD; have HLE' := hide lE
      have D1 := hide (pblock_any hG9 d hd tiA (c := cA) (unhide HNLA).symm (unhide HGA) (blkL_isA F 1 L) A (unhide HAA) (by simp; omega))
      have l9 := run_ldP hh9
      unfold pV at l9 D1
      unfold tiA at D1
      have hw14' : w13.alloc (.cells #[.int .i64 (d : Int), .pointer (some ⟨g, 0, none⟩)] 130) = w14 := hw14.symm
      have HPB := hide hpb
      clear hw14 b89 hh9 hG9 hb79 hA9 hD9 hE9 hbw9 hwB2 hpb hB2 hG8 hb8 hB28 lA lD lE
      unfold pV
      go_upto_region 13 with fail
      rw [← unhide HPB]
      clear hw14'
      go_wp2_with fail
      refine (unhide D1).mono ?_
      rintro e w15 ⟨⟨v15, rfl⟩, hG15, hd15⟩
      have D2 := hide (pblock_any hG15 d hd tiD (c := cD) (unhide HNLD).symm (fun W hW => unhide HGD W (hd15.trans hW)) (blkL_isA F 2 L) B (unhide HBA) (by have := unhide HLA'; have := unhide HLD'; have := unhide HNLA; rw [List.length_append, blkR_len]; simp; omega))
      have l15 := run_ldP (unhide HGP w15 hd15).1
      unfold pV tiD at D2
      unfold pV at l15
      have HD15 := hide hd15
      clear hG15 hd15 D1 l9
      go_wp2_with fail
      refine (unhide D2).mono ?_
      rintro e w16 ⟨⟨v16, rfl⟩, hG16, hd16⟩
      have hd916 := (unhide HD15).trans hd16
      have D3 := hide (pblock_any hG16 d hd tiE (c := cE7) (unhide HLE7) (fun W hW => unhide HGE W (hd916.trans hW)) (psE_isA F L) C (unhide HCA) (by have := unhide HLA'; have := unhide HLD'; have := unhide HLE'; have := unhide HNLA; have := unhide HNLD; rw [List.length_append, List.length_append, blkR_len, blkR_len]; simp; omega))
      have l16 := run_ldP (unhide HGP w16 hd916).1
      unfold pV tiE at D3
      unfold pV at l16
      have HD16 := hide hd916
      clear hG16 hd16 hd916 D2 l15 HD15
      go_wp2_with fail
      refine (unhide D3).mono ?_
      rintro e w17 ⟨⟨v17, rfl⟩, hG17, hd17⟩
      have hd917 := (unhide HD16).trans hd17
      have D4 := hide (pair_any hG17 d hd tiT E (unhide HEA) (unhide HGA w17 hd917).2 (by have := unhide HLA'; have := unhide HLD'; have := unhide HLE'; have := unhide HNLA; have := unhide HNLD; have := unhide HLE7; rw [List.length_append, List.length_append, List.length_append, blkR_len, blkR_len, blkR_len]; simp; omega))
      have l17 := run_ldP (unhide HGP w17 hd917).1
      unfold pV tiT at D4
      unfold pV at l17
      have HD17 := hide hd917
      clear hG17 hd17 hd917 D3 l16 HD16
      go_wp2_with (go_at_call 94; refine (unhide D4).mono ?_; rintro e w18 ⟨⟨v18, rfl⟩, hG18, hd18⟩; have HGRD : Hid (Gr B2 w18 g [0, 1] (posR d (blkL F 1 L) (blkL F 2 L) (psE F L) A B C E)) := hG18; have HD18 := hide ((unhide HD17).trans hd18); clear hG18 hd18 D4 l17)
      have HCC : Hid (∀ W, Below w18.heap.size w18 W → W.cell? ⟨pb, 1, none⟩ = some (.pointer (some ⟨g, 0, none⟩)) ∧ Kg.Pw W ∧ Dy.Mon W ∧ Below w.heap.size w W) := fun W hb => by
        obtain ⟨q1, q2⟩ := unhide HGP w18 (unhide HD18)
        have h1 := q2.trans (hb.mono q2.size)
        exact ⟨by rw [cell_at ((hb.block _ (Array.getElem?_eq_some_iff.1 q1).1).trans q1)]; rfl, (unhide HPW).below h1, (unhide HMO).below h1, h1⟩
      obtain ⟨T1, hT1⟩ : ∃ T, T = txB (dtx day) := ⟨_, rfl⟩
      obtain ⟨T3, hT3⟩ : ∃ T, T = txB (gridT (rgt [0, 1]) (posR d (blkL F 1 L) (blkL F 2 L) (psE F L) A B C E)) := ⟨_, rfl⟩
      have z1 : T1.size ≤ 100 := by rw [hT1, txB_len]; exact dtx_len day
      have hcnt := posR_count d (blkL F 1 L) (blkL F 2 L) (psE F L) A B C E
      have z3 : T3.size ≤ 100000000000 := by
        rw [hT3, txB_len]
        have := grid_len (rgt [0, 1]) (posR_two d (blkL F 1 L) (blkL F 2 L) (psE F L) A B C E) (posR_cell hd (unhide HLBA) (unhide HLBD) (unhide HLBE) A B C E)
        rw [hcnt, ← unhide HNLA, ← unhide HNLD, unhide HLE7] at this
        have := unhide HLA'; have := unhide HLD'; have := unhide HLE'
        omega
      have k1 : ¬ 9223372036854775807 < 3 + T1.size := by omega
      have k2 : ¬ 9223372036854775807 < 3 + T1.size + 1 := by omega
      have k3 : ¬ 9223372036854775807 < 3 + T1.size + 1 + T3.size := by omega
      have HT1 := hide hT1; have HT3 := hide hT3; have HCNT := hide hcnt
      clear z1 z3 hT1 hT3 hcnt
      have hs0 := (unhide HCC w18.drew (below_drewN (Below.refl _ _) 1)).1
      refine wp_region_last (n := 10) (S := fun W => W.cell? ⟨pb, 1, none⟩ = some (.pointer (some ⟨g, 0, none⟩))) (by kernel_rfl) hs0 (fun hHeld => ?_)
      clear hs0
      refine tkW 0 ?_; refine tkW 4 ?_
      refine tkN 5 ?_
      clear hHeld
      have pm := unhide HCC (w18.drewN 1) (below_drewN (Below.refl _ _) 1)
      have DT1 := dayText_any day (unhide HFD) (w18.drewN 1) pm.2.2.1 pm.2.1
      unfold TxtOut at DT1
      rw [← unhide HT1] at DT1
      have DT1 := hide DT1
      clear pm
      refine wpAnyL_one (i := 1) (by kernel_rfl) rfl (fun KK hK => ?_)
      go_simp
      go_wp2_with (go_at_call 95; refine (unhide DT1).mono ?_; rintro e w19 ⟨rfl, hb19⟩)
      have hb1819 : Below w18.heap.size w18 w19 := (below_drewN (Below.refl _ _) 1).trans hb19
      have HB19 := hide hb1819
      refine hK.out _ _ (unhide HCC w19 hb1819).1 (fun hHeld => ?_)
      clear hK KK hb19 hb1819 DT1
      refine tkW 2 ?_; refine tkW 3 ?_
      clear hHeld
      have DG2 := (gtext_of ((unhide HGRD).below (unhide HB19)) (by decide) (posR_two d _ _ _ _ _ _ _) (M := 200) (posR_cell hd (unhide HLBA) (unhide HLBD) (unhide HLBE) A B C E) (by decide) (by rw [unhide HCNT, ← unhide HNLA, ← unhide HNLD, unhide HLE7]; have := unhide HLA'; have := unhide HLD'; have := unhide HLE'; show _ * (2 * _ + 1) ≤ _; omega) (by rw [unhide HCNT, ← unhide HNLA, ← unhide HNLD, unhide HLE7]; have := unhide HLA'; have := unhide HLD'; have := unhide HLE'; omega))
      unfold TxtOut at DG2
      rw [← unhide HT3] at DG2
      have DG2 := hide DG2
      refine wpAnyL_one (i := 6) (by kernel_rfl) rfl (fun KK hK => ?_)
      go_simp
      go_wp2_with (go_at_call 51; refine (unhide DG2).mono ?_; rintro e w20 ⟨rfl, hb20⟩)
      have hb1820 : Below w18.heap.size w18 w20 := (unhide HB19).trans (hb20.mono (unhide HB19).size)
      have HB20 := hide hb1820
      refine hK.out _ _ (unhide HCC w20 hb1820).1 (fun hHeld => ?_)
      clear hK KK hb20 hb1820 DG2
      refine tkW 7 ?_; refine tkW 8 ?_; refine tkW 9 ?_
      clear hHeld
      refine wpAnyL_done (by kernel_rfl) ?_
      go_wp2_with fail
      go_ret2
      have HANS : ansP (d : Int) L R day = (posT d L F day, 0) := by
        have e : errP (d : Int) L R day = 0 := by
          unfold errP
          rw [if_neg (unhide HNB), if_neg (by rw [unhide HEZ]; simp), ← unhide HFV, ← unhide HOV]
        unfold ansP
        rw [if_pos e, ← unhide HFV]
        rfl
      refine ⟨?_, (unhide HCC w20 (unhide HB20)).2.2.2⟩
      have e : (⟨#[65, 116, 32]⟩ : ByteArray) ++ T1 ++ ⟨#[10]⟩ ++ T3 = txB (posT d L F day) := by
        obtain ⟨ea, eb, ec, et⟩ := unhide HEQ
        unfold posT hdrP
        rw [ea, eb, ec, et, ← txB_app, ← txB_app, ← txB_app, unhide HT1, unhide HT3]
        rfl
      rw [HANS]
      show _ = Ending.returned (.tuple #[.string (txB (posT d L F day)), .int .i64 0])
      rw [← e]
      rfl
    · have hob : (O != 0) = true := by rw [bne_iff_ne]; exact hO0
      have HE : Hid (ansP (d : Int) L R day = ([], O)) := by
        have e : errP (d : Int) L R day = O := by
          unfold errP
          rw [if_neg (unhide HNB), if_neg (by rw [unhide HEZ]; simp), ← unhide HFV, ← unhide HOV]
        show _ = _
        unfold ansP
        rw [e, if_neg hO0]
      go_upto_region 11 with fail
      have c1 := unhide HC12 w12.drew (below_drewN (Below.refl _ _) 1)
      refine wp_region_last (n := 6) (S := fun W => W.cell? ⟨bb, 2, none⟩ = some (.int .i64 O)) (by kernel_rfl) c1 (fun hHeld => ?_)
      refine tkW 0 ?_; refine tkW 1 ?_; refine tkW 2 ?_
      refine tkN 3 ?_
      refine tkW 4 ?_; refine tkW 5 ?_
      refine wpAnyL_done (by kernel_rfl) ?_
      go_wp2_with fail
      go_ret2
      exact ⟨by rw [unhide HE]; rfl, (unhide HB12).trans ((below_drewN (Below.refl _ _) 1).mono (unhide HB12).size)⟩
  · have hzb : (errC L R != 0) = true := by rw [bne_iff_ne]; exact hez
    have HE : Hid (ansP (d : Int) L R day = ([], errC L R)) := by
      have e : errP (d : Int) L R day = errC L R := by unfold errP; rw [if_neg (unhide HNB), if_pos hez]
      show _ = _
      unfold ansP
      rw [e, if_neg hez]
    obtain ⟨E, hE⟩ : ∃ z, z = errC L R := ⟨_, rfl⟩
    rw [← hE] at HE hzb ⊢
    have HB := hide hb1
    clear hb1 hE DC hez
    go_wp2_with fail
    go_ret2
    exact ⟨by rw [unhide HE]; rfl, unhide HB⟩
theorem position_any {w : World} (hP : Kg.Pw w) (hM : Dy.Mon w) {pa : Option Addr} {na ca : Nat} {L : List Ch.Ac} (hL : L.length = na) (hLL : Lies Ch.kA w pa L) (hna : na ≤ 1048576) (hsz : ∀ a ∈ L, (Ch.txN a.nm).size ≤ 1048576) (hty : ∀ a ∈ L, fits64 a.ty) {pr : Option Addr} {nr cr : Nat} {R : List Po} (hR : R.length = nr) (hLR : Lies kU w pr R) (hok : ∀ r ∈ R, PoOk r) (hnr : nr ≤ 1048576) (day : Int) (hday : fits64 day) (dg : Int) (hdg : fits64 dg) :
    Calls Tryz.prog 30 #[.slice pa na ca, .slice pr nr cr, .int .i64 day, .int .i64 dg] w (TriOut w (ansP dg L R day)) := by
  by_cases hb : dg < 0 ∨ 6 < dg ∨ isDb day = false
  · exact position_bad day hday dg hdg hb
  · have e : ((dg.toNat : Nat) : Int) = dg := by omega
    have h := position_good hP hM (ca := ca) (cr := cr) hL hLL hna hsz hty hR hLR hok hnr day dg.toNat (by omega) (by simpa using (fun h => hb (.inr (.inr h))))
    rw [e] at h
    exact h
end Go.Proofs.YtcafhmlpmbkhkaaGreatDoor
