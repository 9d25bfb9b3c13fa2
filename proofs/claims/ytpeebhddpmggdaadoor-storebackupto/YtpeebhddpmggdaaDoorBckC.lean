/- StoreBack (3): its walk. -/
import Derived.Test.YtpeebhddpmggdaaDoorBckP
import Derived.Lib.SlBytesConst
namespace Go.Proofs.YtpeebhddpmggdaaDoor
open Go Go.RowKit Go.Shelf Go.ChangeShapes Go.WideShapes Go.ChangeAt
set_option linter.unusedVariables false
attribute [local go_sem] setCell_drewN alloc_drewN
theorem torn_lies (w : World) : BLies tornN (.slice (some ⟨w.heap.size, 0, none⟩) 8 8) 8 (w.alloc (.cells #[.int .u8 116, .int .u8 111, .int .u8 114, .int .u8 110, .int .u8 32, .int .u8 101, .int .u8 110, .int .u8 100] 5 (8, 9))) := by
  refine .inr ⟨w.heap.size, 0, 8, rfl, fun _ => by simp, fun k hk => ?_⟩
  rw [Nat.zero_add, World.cell?_alloc_mark]
  match k, hk with
  | 0, _ => rfl
  | 1, _ => rfl
  | 2, _ => rfl
  | 3, _ => rfl
  | 4, _ => rfl
  | 5, _ => rfl
  | 6, _ => rfl
  | 7, _ => rfl
/-- a list of bytes as it may lie in a list -/
def SIn (f : Nat → Nat) (pa : Option Addr) (n cap : Nat) (w : World) : Prop := (n = 0 ∧ ∃ a, pa = some a) ∨ BLies f (.slice pa n cap) n w
theorem SIn.below {f : Nat → Nat} {pa : Option Addr} {n cap : Nat} {w w' : World} (h : SIn f pa n cap w) (hb : Below w.heap.size w w') : SIn f pa n cap w' := h.imp id (fun h => h.below hb)
set_option maxRecDepth 100000 in
set_option maxHeartbeats 4000000 in
theorem short_all (f : Nat → Nat) (pa : Option Addr) (n cap : Nat) (hcap : n ≤ cap) (w : World) (h : SIn f pa n cap w) : Calls Tryd.prog 4 #[.slice pa n cap] w fun e w' => ShOut f n w e w' := by
  rcases h with ⟨rfl, ad, rfl⟩ | h
  · obtain ⟨i0, hi, hz0, hz1, hz2⟩ := info_parts info5
    have HI := hide hi; have HZ0 := hide hz0; have HZ1 := hide hz1; have HZ2 := hide hz2
    clear hi hz0 hz1 hz2
    have N2 := hide (World.ownsRow_lit (base := w.heap.size) (e := 5) (size := 1) w #[] 0 (Nat.le_refl _) (by unfold maxLen; omega) rfl)
    go_enter Tryd.func4, Tryd.ntmps4
    go_wp2_with (at_builtin; refine wpList_append_own_at _ rfl _ _ 23 rfl w.heap.size 5 i0 (.int .u8 0) 1 1 Tryd.underlying23 (unhide HI) (unhide HZ0) (unhide HZ1) (unhide HZ2) rfl (by decide) _ _ _ rfl (unhide N2) ad 0 cap [] rfl rfl (fun j u hj => by simp at hj) (fun u hu => by cases hu) (by unfold maxLen; omega) (by omega) (by simp) ?_; intro v4 w4 hown4 hgrow4 hnil4 _; have O4 := hide hown4; have B4 := hide (Below.grown (bal (Below.refl w.heap.size w) _) hgrow4 (by simp) (fun j hj => ((unhide N2).lt j hj).1)); have NL := hide hnil4; clear hown4 hgrow4 hnil4)
    go_ret
    have h := unhide O4
    obtain ⟨g, c, rfl⟩ := row_never_nil h (fun e => by have := ((unhide NL).1 e).1; cases this)
    exact ⟨g, c, rfl, h, unhide B4⟩
  · exact short_any f pa n cap hcap w h
theorem row_over {w1 w2 : World} {b b' n k : Nat} {v vw : Value} {xs ws : List Value} {tmp : Obj} (h : w1.ownsRow b 5 1 v n xs) (hw : w1.ownsRow b' 23 1 vw k ws) (g : (w1.alloc tmp).grownBy w2 vw.ownBlock) : w2.ownsRow b 5 1 v n xs :=
  (h.alloc tmp).kept g (own_apart (hw.alloc tmp) (h.alloc tmp) (by decide))
set_option maxRecDepth 100000 in
set_option maxHeartbeats 8000000 in
theorem back_walk (K : Nat) (pu : Option Addr) (cu : Nat) (rp : Nat → Option Addr) (ln rc : Nat → Nat) (r : Nat → Nat → Nat) (hK : K ≤ 9223372036854775000) (w : World) (hu : VLies (fun j => .slice (rp j) (ln j) (rc j)) (.slice pu K cu) K w)
    (hr : ∀ j, j < K → ln j ≤ rc j ∧ SIn (r j) (rp j) (ln j) (rc j) w) (hr8 : ∀ j k, r j k < 256) (ct : Int) (hct : -9223372036854775808 ≤ ct ∧ ct ≤ 9223372036854775807)
    (f : Nat → Nat) (hf : ∀ k, f k < 256) (pa : Option Addr) (n cap : Nat) (hcap : n ≤ cap) (hn : n ≤ 1048576) (ha : BLies f (.slice pa n cap) n w) (hS : Stp w) :
    Calls Tryd.prog 3 #[.slice pu K cu, .int .i64 ct, .slice pa n cap] w fun e w' => e = .returned (.bool true) ∧ Below w.heap.size w w' := by
  have HU := hide hu; have HR := hide hr; have HR8 := hide hr8; have HF := hide hf; have HA := hide ha; have HS := hide hS; have HCT := hide hct
  clear hu hr hr8 hf ha hS hct
  obtain ⟨m, hm⟩ : ∃ m : Nat → Nat, m = fun j => min (ln j) 2048 := ⟨_, rfl⟩
  have HM : Hid (∀ j, m j = min (ln j) 2048) := fun j => by rw [hm]
  have HM2 : Hid (∀ j, m j ≤ 2048) := fun j => by rw [hm]; show min _ _ ≤ 2048; omega
  clear hm
  obtain ⟨i0, hi, hz0, hz1, hz2⟩ := info_parts info23
  have HI := hide hi; have HZ0 := hide hz0; have HZ1 := hide hz1; have HZ2 := hide hz2
  clear hi hz0 hz1 hz2
  go_enter Tryd.func3, Tryd.ntmps3
  go_wp2_with fail
  go_loopw [7, 8, 9] (fun va vw vi wr => Lp r m K w va vw vi wr) (fun _ _ vi _ => 40 - (intOf vi).toNat)
  case atStart => exact ⟨0, [], rfl, by omega, by omega, rfl, World.ownsRow_nil _ _ _ _, World.ownsRow_nil _ _ _ _, fun j v hj => by simp at hj, Below.refl _ _⟩
  case round =>
    obtain ⟨i, ws, rfl, hiK, hi40, hws, hw, hal, hrw, hb⟩ := hrel
    have HW := hide hw; have HAL := hide hal; have HRW := hide hrw; have HB := hide hb; have HWS := hide hws
    clear hw hal hrw hb hws
    by_cases hgo : i < K ∧ i < 40
    · obtain ⟨g1, g2⟩ := hgo
      have j1 : (i : Int) < (K : Int) := by omega
      have j2 : (i : Int) < 40 := by omega
      have j3 : (0 : Int) ≤ (i : Int) := by omega
      obtain ⟨b, off, rfl, hcell⟩ : ∃ b off, pu = some ⟨b, off, none⟩ ∧ w.cell? ⟨b, off + i, none⟩ = some (.slice (rp i) (ln i) (rc i)) := by
        rcases unhide HU with ⟨h0, _⟩ | ⟨b, off, c, he, hc⟩
        · omega
        · injection he with he _ _
          exact ⟨b, off, he, hc i g1⟩
      have hcw := ((unhide HB).cell (p := ⟨b, off + i, none⟩) (World.block_lt_of_cell? w ⟨b, off + i, none⟩ hcell)).trans hcell
      clear hcell
      go_wp2_with fail
      refine (short_all (r i) (rp i) (ln i) (rc i) ((unhide HR) i g1).1 wr (((unhide HR) i g1).2.below (unhide HB))).mono ?_
      rintro e w1 ⟨s1, c1, rfl, o1, b1⟩
      rw [← unhide HM i] at o1 ⊢
      have O1 := hide o1; have B1 := hide b1
      have hz1 := b1.size; have hz0 := (unhide HB).size
      obtain ⟨mi, hmi⟩ : ∃ mi, m i = mi := ⟨_, rfl⟩
      have HMI := hide hmi
      have hmi2 : mi ≤ 2048 := by rw [← hmi]; exact unhide HM2 i
      rw [hmi] at O1 ⊢
      clear o1 b1 hmi
      go_wp2_with (at_builtin; refine wpList_append_own_at _ rfl _ _ 22 rfl w.heap.size 23 i0 (.slice none 0 0) 1 24 Tryd.underlying22 (unhide HI) (unhide HZ0) (unhide HZ1) (unhide HZ2) rfl (by decide) _ _ _ rfl ((own_below (unhide HW) (unhide B1)).alloc _) ⟨w1.heap.size, 0, none⟩ 1 1 [.slice (some ⟨s1, 0, none⟩) mi c1] rfl rfl (cell_one_new _ _ _) (by simp [Value.oneCell']) (by unfold maxLen; omega) (by omega) (by simp; omega) ?_; intro v2 w2 hown2 hgrow2 _ _; obtain ⟨s2, c2, rfl⟩ := ownsRow_succ hown2; have O2 := hide hown2; have G2 : Hid ((w1.alloc (.cells #[.slice (some ⟨s1, 0, none⟩) mi c1] 23)).grownBy w2 u8.ownBlock) := hgrow2; have hcv : w2.cell? ⟨s2, i, none⟩ = some (.slice (some ⟨s1, 0, none⟩) mi c1) := (hown2.cellAt i (by omega)).trans (by rw [List.getElem?_append_right (by have := unhide HWS; omega)]; simp [unhide HWS]); clear hown2 hgrow2)
      have K1 : Hid (Below w.heap.size w w1) := step_below (unhide HB) (Nat.le_refl _) (unhide B1)
      have K2 : Hid (Below w.heap.size w w2) := Below.grown (bal (unhide K1) _) (unhide G2) (by simp; omega) (fun j hj => ((unhide HW).lt j hj).1)
      have A1 : Hid (w2.ownsRow wr.heap.size 5 1 (.slice (some ⟨s1, 0, none⟩) mi c1) mi (bcells (r i) mi)) := row_over (unhide O1) (own_below (unhide HW) (unhide B1)) (unhide G2)
      have hz2 := (unhide K2).size
      have hof := offN_le m 2048 (unhide HM2) i
      have HOF : Hid (offN m i + (8 + mi) ≤ 140737488351232) := by
        show offN m i + (8 + mi) ≤ 140737488351232
        have : i * (8 + 2048) ≤ 40 * 2056 := Nat.mul_le_mul_right _ hi40
        omega
      clear hof hcv
      refine (frame_any (unhide HR8 i) (BLies.of_own (unhide A1)) ((unhide HS).below (unhide K2))).mono ?_
      intro e w3 hF
      obtain ⟨v3, rfl, o3⟩ := hF.2.1 hmi2
      have b3 := hF.2.2
      have O3 := hide o3; have B3 := hide b3
      have hz3 := b3.size
      have A3 : Hid (w3.ownsRow w.heap.size 5 1 u7 (offN m i) (bcells (allF r m i) (offN m i))) := own_below (row_over (own_below (unhide HAL) (unhide B1)) (own_below (unhide HW) (unhide B1)) (unhide G2)) b3
      clear hF o3 b3
      go_wp2_with (at_builtin; refine wpList_append_bytes rfl _ _ rfl w.heap.size _ (offN m i) (allF r m i) rfl (unhide A3) _ (8 + mi) (frB (r i) mi) rfl (BLies.of_own (unhide O3)) (unhide HOF) (by omega) ?_; intro v4 w4 ho4 hg4 hn4; have O4 := hide ho4; have G4 := hide hg4; have N4 := hide hn4; clear ho4 hg4 hn4)
      have hmi := unhide HMI
      subst hmi
      exact ⟨Lp.next (v3 := undef) g1 g2 (unhide HWS) (unhide HW) (unhide HAL) (unhide HRW) (unhide HB) (unhide O1) (unhide B1) (unhide O2) (unhide G2) (unhide B3) (unhide O4) (unhide G4) (unhide N4), by simp [intOf]; omega⟩
    · have hx : (¬ (i : Int) < (K : Int)) ∨ ((i : Int) < (K : Int) ∧ ¬ (i : Int) < 40) := by omega
      clear hgo
      obtain ⟨pl, cl, rfl, hcl, hpl⟩ := row_slice (unhide HAL)
      have z0 := (unhide HB).size
      have hof := offN_le m 2048 (unhide HM2) i
      have HOF : Hid (offN m i ≤ 82240) := by
        show offN m i ≤ 82240
        have : i * (8 + 2048) ≤ 40 * 2056 := Nat.mul_le_mul_right _ hi40
        omega
      clear hof
      obtain ⟨N, hN⟩ : ∃ N, offN m i = N := ⟨_, rfl⟩
      have HN := hide hN
      rw [hN] at HAL HOF hcl hpl HRW ⊢
      clear hN
      have hcv := Lib.run_convert_bytes_const (P := Tryd.prog) wr 23 5 #[.int .u8 116, .int .u8 111, .int .u8 114, .int .u8 110, .int .u8 32, .int .u8 101, .int .u8 110, .int .u8 100] 8 8 Tryd.underlying23 Tryd.underlying5
      simp only [List.size_toArray, List.length_cons, List.length_nil, Nat.reduceAdd] at hcv
      obtain ⟨q, hq16, hqq⟩ := cut_rem ct (unhide HCT)
      have q0 : (0 : Int) ≤ (q : Int) := by omega
      rcases hqq with ⟨k1, k2⟩ | ⟨k1, k2⟩ <;> rcases hx with j1 | ⟨j1, j2⟩
      · go_wp2_with fail
        clear hcv
        refine (frame_any torn_lt (torn_lies wr) ((unhide HS).below (bal (unhide HB) _))).mono ?_
        intro e w3 hF
        obtain ⟨v3, rfl, o3⟩ := hF.2.1 (by omega)
        have b3 := hF.2.2
        obtain ⟨s3, c3, rfl⟩ := own_open o3 (by omega)
        have hc3 : 16 ≤ c3 := by
          rcases o3.2 with ⟨h, _⟩ | ⟨_, _, _, h, _, _, h2, _⟩
          · cases h
          · injection h with _ _ h
            subst h
            exact h2
        have B3 : Hid (Below wr.heap.size wr w3) := (bal (Below.refl wr.heap.size wr) _).trans (b3.mono (by simp))
        have A3 : Hid (w3.ownsRow w.heap.size 5 1 (.slice pl N cl) N (bcells (allF r m i) N)) := own_below (unhide HAL) (unhide B3)
        have L3 : Hid (BLies (frB tornN 8) (.slice (some ⟨s3, 0, none⟩) q c3) q w3) := .inr ⟨s3, 0, c3, rfl, fun _ => (o3.lt s3 rfl).2, fun k hk => by rw [Nat.zero_add, o3.cellAt k (by omega), bcells_get _ _ _ (by omega)]⟩
        have hz3 := (unhide B3).size
        have q1 : (q : Int) ≤ (c3 : Int) := by omega
        have K3 : Hid (Below w.heap.size w w3) := step_below (unhide HB) (Nat.le_refl _) (unhide B3)
        clear hF o3 b3
        go_wp2_with (at_builtin; refine wpList_append_bytes rfl _ _ rfl w.heap.size _ N (allF r m i) rfl (unhide A3) _ q (frB tornN 8) rfl (unhide L3) (by have := unhide HOF; omega) (by omega) ?_; intro v4 w4 ho4 hg4 _; obtain ⟨p4, c4, rfl, hc4, _⟩ := row_slice ho4; have O4 := hide ho4; have G4 : Hid (w3.grownBy w4 (Value.slice pl N cl).ownBlock) := hg4; clear ho4 hg4)
        have K4 : Hid (Below w.heap.size w w4) := Below.grown (unhide K3) (unhide G4) (by omega) (fun j hj => ((unhide HAL).lt j hj).1)
        have hz4 := (unhide K4).size
        refine (scan_any _ (cat_lt256 (allF_lt (unhide HR8) i) (frB_lt _ torn_lt _)) p4 (N + q) c4 hc4 (by have := unhide HOF; omega) w4 (BLies.of_own (unhide O4)) ((unhide HS).below (unhide K4))).mono ?_
        rintro e w5 ⟨v5, xs, o, rfl, hpre, hnw, hrow5, hsh5, hb5⟩
        obtain ⟨hxl, rfl, hxs⟩ := scan_laid (unhide HM2) (unhide HN) hq16 hpre hnw
        have K5 : Hid (Below w.heap.size w w5) := step_below (unhide K4) (Nat.le_refl _) hb5
        have W5 : Hid (w5.ownsRow w.heap.size 23 1 u8 i ws) := by
          have h3 := own_below (unhide HW) (unhide B3)
          exact own_below (h3.kept (unhide G4) (own_apart (unhide A3) h3 (by decide))) hb5
        have R5 : Hid (∀ j v, ws[j]? = some v → BLies (r j) v (m j) w5) := fun j v hj => by
          obtain ⟨h1, h2⟩ := unhide HRW j v hj
          exact BLies.of_own (own_below ((own_below h1 (unhide B3)).kept (unhide G4) h2) hb5)
        have X5 : Hid (∀ j x, xs[j]? = some x → BLies (r j) x.rcd (m j) w5) := fun j x hx => by
          obtain ⟨h1, h2⟩ := hxs j x hx
          have h3 := shown_lies (hsh5 x (List.mem_of_getElem? hx))
          have e : x.len - 8 = m j := by omega
          rw [e] at h3
          exact lies_ext h3 h2
        have S5 := hide (same_any r m i (by omega) v5 u8 (fun j => (xs.map Fr.rcd).getD j undef) (fun j => ws.getD j undef) w5 (VLies.of_own (by rw [hxl] at hrow5; exact hrow5) (by simp [hxl])) (VLies.of_own (unhide W5) (unhide HWS))
          (fun j hj => by
            have hj' : j < xs.length := by omega
            have hx : xs[j]? = some xs[j] := List.getElem?_eq_getElem hj'
            have e : (xs.map Fr.rcd).getD j undef = xs[j].rcd := by simp [List.getD, hj']
            show BLies (r j) ((xs.map Fr.rcd).getD j undef) (m j) w5
            rw [e]
            exact unhide X5 j _ hx)
          (fun j hj => by
            have hj' : j < ws.length := by have := unhide HWS; omega
            have hx : ws[j]? = some ws[j] := List.getElem?_eq_getElem hj'
            have e : ws.getD j undef = ws[j] := by simp [List.getD, hj']
            show BLies (r j) (ws.getD j undef) (m j) w5
            rw [e]
            exact unhide R5 j _ hx))
        clear hpre hnw hrow5 hsh5 hb5 hxs hxl hc4
        go_wp2_with fail
        refine (unhide S5).mono ?_
        rintro e w6 ⟨rfl, d6, hw6⟩
        have K6 : Hid (Below w.heap.size w w6) := by rw [hw6]; exact below_drewN (unhide K5) d6
        clear hw6
        have hz6 := (unhide K6).size
        have N6 := hide (World.ownsRow_lit (base := w6.heap.size) (e := 5) (size := 1) w6 #[] 0 (Nat.le_refl _) (by unfold maxLen; omega) rfl)
        have U6 := hide (fun o => ((unhide HA).below (unhide K6)).below (bal (Below.refl w6.heap.size w6) o))
        go_wp2_with (at_builtin; refine wpList_append_bytes rfl _ _ rfl w6.heap.size _ 0 (fun _ => 0) rfl (unhide N6) _ n f rfl (unhide U6 _) (by omega) (by simp) ?_; intro v7 w7 ho7 hg7 _; rw [cat_zero, Nat.zero_add] at ho7; obtain ⟨p7, c7, rfl, hc7, _⟩ := row_slice ho7; have O7 := hide ho7; have G7 := hide (Below.grown (bal (unhide K6) _) hg7 (by simp; omega) (fun k hk => Nat.le_trans (unhide K6).size ((unhide N6).lt k hk).1)); clear ho7 hg7)
        refine (scan_any f (unhide HF) p7 n c7 hc7 (by omega) w7 (BLies.of_own (unhide O7)) ((unhide HS).below (unhide G7))).mono ?_
        rintro e w8 ⟨v8, xs2, o2, rfl, hpre, hnw, hrow8, hsh8, hb8⟩
        obtain ⟨p8, c8, rfl, hc8, hp8⟩ := row_slice hrow8
        have K8 : Hid (Below w.heap.size w w8) := step_below (unhide G7) (Nat.le_refl _) hb8
        have P8 := hide hpre; have R8 := hide hrow8; have S8 := hide hsh8; have HP8 := hide hp8
        have ho2 := hpre.le
        have hl2 := hpre.count
        have he2 := hpre.end
        have HE2 := hide he2
        have hz8 := (unhide K8).size
        clear hpre hnw hrow8 hsh8 hb8 hc7 hc8 hp8 he2
        go_wp2_with fail
        go_loopw [18, 19] (fun vb vi wq => Lq f xs2 w8 vb vi wq) (fun _ vi _ => xs2.length - (intOf vi).toNat)
        case atStart => exact ⟨0, rfl, by omega, World.ownsRow_nil _ _ _ _, Below.refl _ _⟩
        case round =>
          obtain ⟨t, rfl, ht, hbk, hb9⟩ := hrel
          have BK := hide hbk; have B9 := hide hb9
          have hz9 := hb9.size
          clear hbk hb9
          have t0 : (0 : Int) ≤ (t : Int) := by omega
          have K9 : Hid (Below w.heap.size w wr) := step_below (unhide K8) (Nat.le_refl _) (unhide B9)
          by_cases htl : t < xs2.length
          · have t1 : (t : Int) < (xs2.length : Int) := by omega
            obtain ⟨x, hx⟩ : ∃ x, xs2[t]? = some x := ⟨_, List.getElem?_eq_getElem htl⟩
            obtain ⟨g8, rfl⟩ := unhide HP8 (by omega)
            have hcx : wr.cell? ⟨g8, t, none⟩ = some x.rcd := keep1 (unhide B9) ((unhide R8).lt g8 rfl).2 (((unhide R8).cellAt t (by omega)).trans (by rw [List.getElem?_map, hx]; rfl))
            obtain ⟨a1, a2, a3, a4, a5⟩ := pre_at (unhide P8) t x hx
            have a6 := a4.2.1
            have LX : Hid (BLies (sh f (x.at' + 8)) x.rcd (x.len - 8) wr) := (shown_lies (unhide S8 x (List.mem_of_getElem? hx))).below (unhide B9)
            have A1 := hide a1; have A2 := hide a2; have A3' := hide a3; have A4 := hide a4
            obtain ⟨xv, hxv⟩ : ∃ xv, x.rcd = xv := ⟨_, rfl⟩
            rw [hxv] at hcx LX
            clear a1 a2 a4 hxv hx
            go_wp2_with fail
            refine (frame_any (fun k => unhide HF _) (unhide LX) ((unhide HS).below (unhide K9))).mono ?_
            intro e w9 hF
            obtain ⟨v9, rfl, o9⟩ := hF.2.1 (by omega)
            have b10 := hF.2.2
            have O9 := hide o9; have B10 := hide b10
            have hz10 := b10.size
            clear hF o9 b10 hcx
            go_wp2_with (at_builtin; refine wpList_append_bytes rfl _ _ rfl w8.heap.size _ (endN (xs2.take t)) f rfl (own_below (unhide BK) (unhide B10)) _ (8 + (x.len - 8)) (frB (sh f (x.at' + 8)) (x.len - 8)) rfl (BLies.of_own (unhide O9)) (by have := unhide A1; have := x.lo; omega) (by omega) ?_; intro v10 w10 ho10 hg10 _; have O10 := hide ho10; have G10 := hide hg10; clear ho10 hg10)
            refine ⟨⟨t + 1, by simp, by omega, ?_, ?_⟩, by simp [intOf]; omega⟩
            · have h := unhide O10
              rw [← unhide A1, back_step (unhide A4) (unhide A3')] at h
              have hlo := x.lo
              rw [show x.at' + (8 + (x.len - 8)) = x.at' + x.len by omega] at h
              rw [unhide A2]
              exact h
            · exact Below.grown (step_below (unhide B9) (Nat.le_refl _) (unhide B10)) (unhide G10) (by omega) (fun j hj => ((unhide BK).lt j hj).1)
          · have t1 : ¬ (t : Int) < (xs2.length : Int) := by omega
            have et : t = xs2.length := by omega
            have hbk := unhide BK
            rw [et, List.take_length, unhide HE2] at hbk
            obtain ⟨pb, cb, rfl, hcb, _⟩ := row_slice hbk
            have kk1 : ∀ d', (convert 23 9 (.slice pb o2 cb)).run Tryd.prog (wr.drewN d') = .ok (.string (txtB f o2)) (wr.drewN d') := fun d' => conv_lies (lies_drewN (BLies.of_own hbk) d')
            have oi : (o2 : Int) ≤ (n : Int) := by omega
            have oi2 : (o2 : Int) ≤ (cap : Int) := by omega
            have oi3 : (0 : Int) ≤ (o2 : Int) := by omega
            clear hbk
            rcases (unhide HA).below (unhide K9) with ⟨h0, he⟩ | ⟨b, off, cp, he, hb1, hb2⟩
            · simp only [Value.slice.injEq] at he
              obtain ⟨rfl, rfl, rfl⟩ := he
              obtain rfl : o2 = 0 := by omega
              have kk2 : ∀ d', (convert 23 9 (.slice none 0 0)).run Tryd.prog (wr.drewN d') = .ok (.string (txtB f 0)) (wr.drewN d') := fun d' => conv_lies (.inl ⟨rfl, rfl⟩)
              go_wp2_with fail
              go_quiet (fail)
              go_wp2_with fail
              go_ret
              exact ⟨rfl, below_drewN (unhide K9) nq⟩
            · simp only [Value.slice.injEq, true_and] at he
              obtain ⟨rfl, rfl⟩ := he
              have kk2 : ∀ d', (convert 23 9 (.slice (some ⟨b, off, none⟩) o2 cap)).run Tryd.prog (wr.drewN d') = .ok (.string (txtB f o2)) (wr.drewN d') := fun d' => conv_lies (lies_drewN (.inr ⟨b, off, cap, rfl, fun h => hb1 (by omega), fun k hk => hb2 k (by omega)⟩) d')
              go_wp2_with fail
              go_quiet (fail)
              go_wp2_with fail
              go_ret
              exact ⟨rfl, below_drewN (unhide K9) nq⟩
      · go_wp2_with fail
        clear hcv
        refine (frame_any torn_lt (torn_lies wr) ((unhide HS).below (bal (unhide HB) _))).mono ?_
        intro e w3 hF
        obtain ⟨v3, rfl, o3⟩ := hF.2.1 (by omega)
        have b3 := hF.2.2
        obtain ⟨s3, c3, rfl⟩ := own_open o3 (by omega)
        have hc3 : 16 ≤ c3 := by
          rcases o3.2 with ⟨h, _⟩ | ⟨_, _, _, h, _, _, h2, _⟩
          · cases h
          · injection h with _ _ h
            subst h
            exact h2
        have B3 : Hid (Below wr.heap.size wr w3) := (bal (Below.refl wr.heap.size wr) _).trans (b3.mono (by simp))
        have A3 : Hid (w3.ownsRow w.heap.size 5 1 (.slice pl N cl) N (bcells (allF r m i) N)) := own_below (unhide HAL) (unhide B3)
        have L3 : Hid (BLies (frB tornN 8) (.slice (some ⟨s3, 0, none⟩) q c3) q w3) := .inr ⟨s3, 0, c3, rfl, fun _ => (o3.lt s3 rfl).2, fun k hk => by rw [Nat.zero_add, o3.cellAt k (by omega), bcells_get _ _ _ (by omega)]⟩
        have hz3 := (unhide B3).size
        have q1 : (q : Int) ≤ (c3 : Int) := by omega
        have K3 : Hid (Below w.heap.size w w3) := step_below (unhide HB) (Nat.le_refl _) (unhide B3)
        clear hF o3 b3
        go_wp2_with (at_builtin; refine wpList_append_bytes rfl _ _ rfl w.heap.size _ N (allF r m i) rfl (unhide A3) _ q (frB tornN 8) rfl (unhide L3) (by have := unhide HOF; omega) (by omega) ?_; intro v4 w4 ho4 hg4 _; obtain ⟨p4, c4, rfl, hc4, _⟩ := row_slice ho4; have O4 := hide ho4; have G4 : Hid (w3.grownBy w4 (Value.slice pl N cl).ownBlock) := hg4; clear ho4 hg4)
        have K4 : Hid (Below w.heap.size w w4) := Below.grown (unhide K3) (unhide G4) (by omega) (fun j hj => ((unhide HAL).lt j hj).1)
        have hz4 := (unhide K4).size
        refine (scan_any _ (cat_lt256 (allF_lt (unhide HR8) i) (frB_lt _ torn_lt _)) p4 (N + q) c4 hc4 (by have := unhide HOF; omega) w4 (BLies.of_own (unhide O4)) ((unhide HS).below (unhide K4))).mono ?_
        rintro e w5 ⟨v5, xs, o, rfl, hpre, hnw, hrow5, hsh5, hb5⟩
        obtain ⟨hxl, rfl, hxs⟩ := scan_laid (unhide HM2) (unhide HN) hq16 hpre hnw
        have K5 : Hid (Below w.heap.size w w5) := step_below (unhide K4) (Nat.le_refl _) hb5
        have W5 : Hid (w5.ownsRow w.heap.size 23 1 u8 i ws) := by
          have h3 := own_below (unhide HW) (unhide B3)
          exact own_below (h3.kept (unhide G4) (own_apart (unhide A3) h3 (by decide))) hb5
        have R5 : Hid (∀ j v, ws[j]? = some v → BLies (r j) v (m j) w5) := fun j v hj => by
          obtain ⟨h1, h2⟩ := unhide HRW j v hj
          exact BLies.of_own (own_below ((own_below h1 (unhide B3)).kept (unhide G4) h2) hb5)
        have X5 : Hid (∀ j x, xs[j]? = some x → BLies (r j) x.rcd (m j) w5) := fun j x hx => by
          obtain ⟨h1, h2⟩ := hxs j x hx
          have h3 := shown_lies (hsh5 x (List.mem_of_getElem? hx))
          have e : x.len - 8 = m j := by omega
          rw [e] at h3
          exact lies_ext h3 h2
        have S5 := hide (same_any r m i (by omega) v5 u8 (fun j => (xs.map Fr.rcd).getD j undef) (fun j => ws.getD j undef) w5 (VLies.of_own (by rw [hxl] at hrow5; exact hrow5) (by simp [hxl])) (VLies.of_own (unhide W5) (unhide HWS))
          (fun j hj => by
            have hj' : j < xs.length := by omega
            have hx : xs[j]? = some xs[j] := List.getElem?_eq_getElem hj'
            have e : (xs.map Fr.rcd).getD j undef = xs[j].rcd := by simp [List.getD, hj']
            show BLies (r j) ((xs.map Fr.rcd).getD j undef) (m j) w5
            rw [e]
            exact unhide X5 j _ hx)
          (fun j hj => by
            have hj' : j < ws.length := by have := unhide HWS; omega
            have hx : ws[j]? = some ws[j] := List.getElem?_eq_getElem hj'
            have e : ws.getD j undef = ws[j] := by simp [List.getD, hj']
            show BLies (r j) (ws.getD j undef) (m j) w5
            rw [e]
            exact unhide R5 j _ hx))
        clear hpre hnw hrow5 hsh5 hb5 hxs hxl hc4
        go_wp2_with fail
        refine (unhide S5).mono ?_
        rintro e w6 ⟨rfl, d6, hw6⟩
        have K6 : Hid (Below w.heap.size w w6) := by rw [hw6]; exact below_drewN (unhide K5) d6
        clear hw6
        have hz6 := (unhide K6).size
        have N6 := hide (World.ownsRow_lit (base := w6.heap.size) (e := 5) (size := 1) w6 #[] 0 (Nat.le_refl _) (by unfold maxLen; omega) rfl)
        have U6 := hide (fun o => ((unhide HA).below (unhide K6)).below (bal (Below.refl w6.heap.size w6) o))
        go_wp2_with (at_builtin; refine wpList_append_bytes rfl _ _ rfl w6.heap.size _ 0 (fun _ => 0) rfl (unhide N6) _ n f rfl (unhide U6 _) (by omega) (by simp) ?_; intro v7 w7 ho7 hg7 _; rw [cat_zero, Nat.zero_add] at ho7; obtain ⟨p7, c7, rfl, hc7, _⟩ := row_slice ho7; have O7 := hide ho7; have G7 := hide (Below.grown (bal (unhide K6) _) hg7 (by simp; omega) (fun k hk => Nat.le_trans (unhide K6).size ((unhide N6).lt k hk).1)); clear ho7 hg7)
        refine (scan_any f (unhide HF) p7 n c7 hc7 (by omega) w7 (BLies.of_own (unhide O7)) ((unhide HS).below (unhide G7))).mono ?_
        rintro e w8 ⟨v8, xs2, o2, rfl, hpre, hnw, hrow8, hsh8, hb8⟩
        obtain ⟨p8, c8, rfl, hc8, hp8⟩ := row_slice hrow8
        have K8 : Hid (Below w.heap.size w w8) := step_below (unhide G7) (Nat.le_refl _) hb8
        have P8 := hide hpre; have R8 := hide hrow8; have S8 := hide hsh8; have HP8 := hide hp8
        have ho2 := hpre.le
        have hl2 := hpre.count
        have he2 := hpre.end
        have HE2 := hide he2
        have hz8 := (unhide K8).size
        clear hpre hnw hrow8 hsh8 hb8 hc7 hc8 hp8 he2
        go_wp2_with fail
        go_loopw [18, 19] (fun vb vi wq => Lq f xs2 w8 vb vi wq) (fun _ vi _ => xs2.length - (intOf vi).toNat)
        case atStart => exact ⟨0, rfl, by omega, World.ownsRow_nil _ _ _ _, Below.refl _ _⟩
        case round =>
          obtain ⟨t, rfl, ht, hbk, hb9⟩ := hrel
          have BK := hide hbk; have B9 := hide hb9
          have hz9 := hb9.size
          clear hbk hb9
          have t0 : (0 : Int) ≤ (t : Int) := by omega
          have K9 : Hid (Below w.heap.size w wr) := step_below (unhide K8) (Nat.le_refl _) (unhide B9)
          by_cases htl : t < xs2.length
          · have t1 : (t : Int) < (xs2.length : Int) := by omega
            obtain ⟨x, hx⟩ : ∃ x, xs2[t]? = some x := ⟨_, List.getElem?_eq_getElem htl⟩
            obtain ⟨g8, rfl⟩ := unhide HP8 (by omega)
            have hcx : wr.cell? ⟨g8, t, none⟩ = some x.rcd := keep1 (unhide B9) ((unhide R8).lt g8 rfl).2 (((unhide R8).cellAt t (by omega)).trans (by rw [List.getElem?_map, hx]; rfl))
            obtain ⟨a1, a2, a3, a4, a5⟩ := pre_at (unhide P8) t x hx
            have a6 := a4.2.1
            have LX : Hid (BLies (sh f (x.at' + 8)) x.rcd (x.len - 8) wr) := (shown_lies (unhide S8 x (List.mem_of_getElem? hx))).below (unhide B9)
            have A1 := hide a1; have A2 := hide a2; have A3' := hide a3; have A4 := hide a4
            obtain ⟨xv, hxv⟩ : ∃ xv, x.rcd = xv := ⟨_, rfl⟩
            rw [hxv] at hcx LX
            clear a1 a2 a4 hxv hx
            go_wp2_with fail
            refine (frame_any (fun k => unhide HF _) (unhide LX) ((unhide HS).below (unhide K9))).mono ?_
            intro e w9 hF
            obtain ⟨v9, rfl, o9⟩ := hF.2.1 (by omega)
            have b10 := hF.2.2
            have O9 := hide o9; have B10 := hide b10
            have hz10 := b10.size
            clear hF o9 b10 hcx
            go_wp2_with (at_builtin; refine wpList_append_bytes rfl _ _ rfl w8.heap.size _ (endN (xs2.take t)) f rfl (own_below (unhide BK) (unhide B10)) _ (8 + (x.len - 8)) (frB (sh f (x.at' + 8)) (x.len - 8)) rfl (BLies.of_own (unhide O9)) (by have := unhide A1; have := x.lo; omega) (by omega) ?_; intro v10 w10 ho10 hg10 _; have O10 := hide ho10; have G10 := hide hg10; clear ho10 hg10)
            refine ⟨⟨t + 1, by simp, by omega, ?_, ?_⟩, by simp [intOf]; omega⟩
            · have h := unhide O10
              rw [← unhide A1, back_step (unhide A4) (unhide A3')] at h
              have hlo := x.lo
              rw [show x.at' + (8 + (x.len - 8)) = x.at' + x.len by omega] at h
              rw [unhide A2]
              exact h
            · exact Below.grown (step_below (unhide B9) (Nat.le_refl _) (unhide B10)) (unhide G10) (by omega) (fun j hj => ((unhide BK).lt j hj).1)
          · have t1 : ¬ (t : Int) < (xs2.length : Int) := by omega
            have et : t = xs2.length := by omega
            have hbk := unhide BK
            rw [et, List.take_length, unhide HE2] at hbk
            obtain ⟨pb, cb, rfl, hcb, _⟩ := row_slice hbk
            have kk1 : ∀ d', (convert 23 9 (.slice pb o2 cb)).run Tryd.prog (wr.drewN d') = .ok (.string (txtB f o2)) (wr.drewN d') := fun d' => conv_lies (lies_drewN (BLies.of_own hbk) d')
            have oi : (o2 : Int) ≤ (n : Int) := by omega
            have oi2 : (o2 : Int) ≤ (cap : Int) := by omega
            have oi3 : (0 : Int) ≤ (o2 : Int) := by omega
            clear hbk
            rcases (unhide HA).below (unhide K9) with ⟨h0, he⟩ | ⟨b, off, cp, he, hb1, hb2⟩
            · simp only [Value.slice.injEq] at he
              obtain ⟨rfl, rfl, rfl⟩ := he
              obtain rfl : o2 = 0 := by omega
              have kk2 : ∀ d', (convert 23 9 (.slice none 0 0)).run Tryd.prog (wr.drewN d') = .ok (.string (txtB f 0)) (wr.drewN d') := fun d' => conv_lies (.inl ⟨rfl, rfl⟩)
              go_wp2_with fail
              go_quiet (fail)
              go_wp2_with fail
              go_ret
              exact ⟨rfl, below_drewN (unhide K9) nq⟩
            · simp only [Value.slice.injEq, true_and] at he
              obtain ⟨rfl, rfl⟩ := he
              have kk2 : ∀ d', (convert 23 9 (.slice (some ⟨b, off, none⟩) o2 cap)).run Tryd.prog (wr.drewN d') = .ok (.string (txtB f o2)) (wr.drewN d') := fun d' => conv_lies (lies_drewN (.inr ⟨b, off, cap, rfl, fun h => hb1 (by omega), fun k hk => hb2 k (by omega)⟩) d')
              go_wp2_with fail
              go_quiet (fail)
              go_wp2_with fail
              go_ret
              exact ⟨rfl, below_drewN (unhide K9) nq⟩
      · go_wp2_with fail
        clear hcv
        refine (frame_any torn_lt (torn_lies wr) ((unhide HS).below (bal (unhide HB) _))).mono ?_
        intro e w3 hF
        obtain ⟨v3, rfl, o3⟩ := hF.2.1 (by omega)
        have b3 := hF.2.2
        obtain ⟨s3, c3, rfl⟩ := own_open o3 (by omega)
        have hc3 : 16 ≤ c3 := by
          rcases o3.2 with ⟨h, _⟩ | ⟨_, _, _, h, _, _, h2, _⟩
          · cases h
          · injection h with _ _ h
            subst h
            exact h2
        have B3 : Hid (Below wr.heap.size wr w3) := (bal (Below.refl wr.heap.size wr) _).trans (b3.mono (by simp))
        have A3 : Hid (w3.ownsRow w.heap.size 5 1 (.slice pl N cl) N (bcells (allF r m i) N)) := own_below (unhide HAL) (unhide B3)
        have L3 : Hid (BLies (frB tornN 8) (.slice (some ⟨s3, 0, none⟩) q c3) q w3) := .inr ⟨s3, 0, c3, rfl, fun _ => (o3.lt s3 rfl).2, fun k hk => by rw [Nat.zero_add, o3.cellAt k (by omega), bcells_get _ _ _ (by omega)]⟩
        have hz3 := (unhide B3).size
        have q1 : (q : Int) ≤ (c3 : Int) := by omega
        have K3 : Hid (Below w.heap.size w w3) := step_below (unhide HB) (Nat.le_refl _) (unhide B3)
        clear hF o3 b3
        go_wp2_with (at_builtin; refine wpList_append_bytes rfl _ _ rfl w.heap.size _ N (allF r m i) rfl (unhide A3) _ q (frB tornN 8) rfl (unhide L3) (by have := unhide HOF; omega) (by omega) ?_; intro v4 w4 ho4 hg4 _; obtain ⟨p4, c4, rfl, hc4, _⟩ := row_slice ho4; have O4 := hide ho4; have G4 : Hid (w3.grownBy w4 (Value.slice pl N cl).ownBlock) := hg4; clear ho4 hg4)
        have K4 : Hid (Below w.heap.size w w4) := Below.grown (unhide K3) (unhide G4) (by omega) (fun j hj => ((unhide HAL).lt j hj).1)
        have hz4 := (unhide K4).size
        refine (scan_any _ (cat_lt256 (allF_lt (unhide HR8) i) (frB_lt _ torn_lt _)) p4 (N + q) c4 hc4 (by have := unhide HOF; omega) w4 (BLies.of_own (unhide O4)) ((unhide HS).below (unhide K4))).mono ?_
        rintro e w5 ⟨v5, xs, o, rfl, hpre, hnw, hrow5, hsh5, hb5⟩
        obtain ⟨hxl, rfl, hxs⟩ := scan_laid (unhide HM2) (unhide HN) hq16 hpre hnw
        have K5 : Hid (Below w.heap.size w w5) := step_below (unhide K4) (Nat.le_refl _) hb5
        have W5 : Hid (w5.ownsRow w.heap.size 23 1 u8 i ws) := by
          have h3 := own_below (unhide HW) (unhide B3)
          exact own_below (h3.kept (unhide G4) (own_apart (unhide A3) h3 (by decide))) hb5
        have R5 : Hid (∀ j v, ws[j]? = some v → BLies (r j) v (m j) w5) := fun j v hj => by
          obtain ⟨h1, h2⟩ := unhide HRW j v hj
          exact BLies.of_own (own_below ((own_below h1 (unhide B3)).kept (unhide G4) h2) hb5)
        have X5 : Hid (∀ j x, xs[j]? = some x → BLies (r j) x.rcd (m j) w5) := fun j x hx => by
          obtain ⟨h1, h2⟩ := hxs j x hx
          have h3 := shown_lies (hsh5 x (List.mem_of_getElem? hx))
          have e : x.len - 8 = m j := by omega
          rw [e] at h3
          exact lies_ext h3 h2
        have S5 := hide (same_any r m i (by omega) v5 u8 (fun j => (xs.map Fr.rcd).getD j undef) (fun j => ws.getD j undef) w5 (VLies.of_own (by rw [hxl] at hrow5; exact hrow5) (by simp [hxl])) (VLies.of_own (unhide W5) (unhide HWS))
          (fun j hj => by
            have hj' : j < xs.length := by omega
            have hx : xs[j]? = some xs[j] := List.getElem?_eq_getElem hj'
            have e : (xs.map Fr.rcd).getD j undef = xs[j].rcd := by simp [List.getD, hj']
            show BLies (r j) ((xs.map Fr.rcd).getD j undef) (m j) w5
            rw [e]
            exact unhide X5 j _ hx)
          (fun j hj => by
            have hj' : j < ws.length := by have := unhide HWS; omega
            have hx : ws[j]? = some ws[j] := List.getElem?_eq_getElem hj'
            have e : ws.getD j undef = ws[j] := by simp [List.getD, hj']
            show BLies (r j) (ws.getD j undef) (m j) w5
            rw [e]
            exact unhide R5 j _ hx))
        clear hpre hnw hrow5 hsh5 hb5 hxs hxl hc4
        go_wp2_with fail
        refine (unhide S5).mono ?_
        rintro e w6 ⟨rfl, d6, hw6⟩
        have K6 : Hid (Below w.heap.size w w6) := by rw [hw6]; exact below_drewN (unhide K5) d6
        clear hw6
        have hz6 := (unhide K6).size
        have N6 := hide (World.ownsRow_lit (base := w6.heap.size) (e := 5) (size := 1) w6 #[] 0 (Nat.le_refl _) (by unfold maxLen; omega) rfl)
        have U6 := hide (fun o => ((unhide HA).below (unhide K6)).below (bal (Below.refl w6.heap.size w6) o))
        go_wp2_with (at_builtin; refine wpList_append_bytes rfl _ _ rfl w6.heap.size _ 0 (fun _ => 0) rfl (unhide N6) _ n f rfl (unhide U6 _) (by omega) (by simp) ?_; intro v7 w7 ho7 hg7 _; rw [cat_zero, Nat.zero_add] at ho7; obtain ⟨p7, c7, rfl, hc7, _⟩ := row_slice ho7; have O7 := hide ho7; have G7 := hide (Below.grown (bal (unhide K6) _) hg7 (by simp; omega) (fun k hk => Nat.le_trans (unhide K6).size ((unhide N6).lt k hk).1)); clear ho7 hg7)
        refine (scan_any f (unhide HF) p7 n c7 hc7 (by omega) w7 (BLies.of_own (unhide O7)) ((unhide HS).below (unhide G7))).mono ?_
        rintro e w8 ⟨v8, xs2, o2, rfl, hpre, hnw, hrow8, hsh8, hb8⟩
        obtain ⟨p8, c8, rfl, hc8, hp8⟩ := row_slice hrow8
        have K8 : Hid (Below w.heap.size w w8) := step_below (unhide G7) (Nat.le_refl _) hb8
        have P8 := hide hpre; have R8 := hide hrow8; have S8 := hide hsh8; have HP8 := hide hp8
        have ho2 := hpre.le
        have hl2 := hpre.count
        have he2 := hpre.end
        have HE2 := hide he2
        have hz8 := (unhide K8).size
        clear hpre hnw hrow8 hsh8 hb8 hc7 hc8 hp8 he2
        go_wp2_with fail
        go_loopw [18, 19] (fun vb vi wq => Lq f xs2 w8 vb vi wq) (fun _ vi _ => xs2.length - (intOf vi).toNat)
        case atStart => exact ⟨0, rfl, by omega, World.ownsRow_nil _ _ _ _, Below.refl _ _⟩
        case round =>
          obtain ⟨t, rfl, ht, hbk, hb9⟩ := hrel
          have BK := hide hbk; have B9 := hide hb9
          have hz9 := hb9.size
          clear hbk hb9
          have t0 : (0 : Int) ≤ (t : Int) := by omega
          have K9 : Hid (Below w.heap.size w wr) := step_below (unhide K8) (Nat.le_refl _) (unhide B9)
          by_cases htl : t < xs2.length
          · have t1 : (t : Int) < (xs2.length : Int) := by omega
            obtain ⟨x, hx⟩ : ∃ x, xs2[t]? = some x := ⟨_, List.getElem?_eq_getElem htl⟩
            obtain ⟨g8, rfl⟩ := unhide HP8 (by omega)
            have hcx : wr.cell? ⟨g8, t, none⟩ = some x.rcd := keep1 (unhide B9) ((unhide R8).lt g8 rfl).2 (((unhide R8).cellAt t (by omega)).trans (by rw [List.getElem?_map, hx]; rfl))
            obtain ⟨a1, a2, a3, a4, a5⟩ := pre_at (unhide P8) t x hx
            have a6 := a4.2.1
            have LX : Hid (BLies (sh f (x.at' + 8)) x.rcd (x.len - 8) wr) := (shown_lies (unhide S8 x (List.mem_of_getElem? hx))).below (unhide B9)
            have A1 := hide a1; have A2 := hide a2; have A3' := hide a3; have A4 := hide a4
            obtain ⟨xv, hxv⟩ : ∃ xv, x.rcd = xv := ⟨_, rfl⟩
            rw [hxv] at hcx LX
            clear a1 a2 a4 hxv hx
            go_wp2_with fail
            refine (frame_any (fun k => unhide HF _) (unhide LX) ((unhide HS).below (unhide K9))).mono ?_
            intro e w9 hF
            obtain ⟨v9, rfl, o9⟩ := hF.2.1 (by omega)
            have b10 := hF.2.2
            have O9 := hide o9; have B10 := hide b10
            have hz10 := b10.size
            clear hF o9 b10 hcx
            go_wp2_with (at_builtin; refine wpList_append_bytes rfl _ _ rfl w8.heap.size _ (endN (xs2.take t)) f rfl (own_below (unhide BK) (unhide B10)) _ (8 + (x.len - 8)) (frB (sh f (x.at' + 8)) (x.len - 8)) rfl (BLies.of_own (unhide O9)) (by have := unhide A1; have := x.lo; omega) (by omega) ?_; intro v10 w10 ho10 hg10 _; have O10 := hide ho10; have G10 := hide hg10; clear ho10 hg10)
            refine ⟨⟨t + 1, by simp, by omega, ?_, ?_⟩, by simp [intOf]; omega⟩
            · have h := unhide O10
              rw [← unhide A1, back_step (unhide A4) (unhide A3')] at h
              have hlo := x.lo
              rw [show x.at' + (8 + (x.len - 8)) = x.at' + x.len by omega] at h
              rw [unhide A2]
              exact h
            · exact Below.grown (step_below (unhide B9) (Nat.le_refl _) (unhide B10)) (unhide G10) (by omega) (fun j hj => ((unhide BK).lt j hj).1)
          · have t1 : ¬ (t : Int) < (xs2.length : Int) := by omega
            have et : t = xs2.length := by omega
            have hbk := unhide BK
            rw [et, List.take_length, unhide HE2] at hbk
            obtain ⟨pb, cb, rfl, hcb, _⟩ := row_slice hbk
            have kk1 : ∀ d', (convert 23 9 (.slice pb o2 cb)).run Tryd.prog (wr.drewN d') = .ok (.string (txtB f o2)) (wr.drewN d') := fun d' => conv_lies (lies_drewN (BLies.of_own hbk) d')
            have oi : (o2 : Int) ≤ (n : Int) := by omega
            have oi2 : (o2 : Int) ≤ (cap : Int) := by omega
            have oi3 : (0 : Int) ≤ (o2 : Int) := by omega
            clear hbk
            rcases (unhide HA).below (unhide K9) with ⟨h0, he⟩ | ⟨b, off, cp, he, hb1, hb2⟩
            · simp only [Value.slice.injEq] at he
              obtain ⟨rfl, rfl, rfl⟩ := he
              obtain rfl : o2 = 0 := by omega
              have kk2 : ∀ d', (convert 23 9 (.slice none 0 0)).run Tryd.prog (wr.drewN d') = .ok (.string (txtB f 0)) (wr.drewN d') := fun d' => conv_lies (.inl ⟨rfl, rfl⟩)
              go_wp2_with fail
              go_quiet (fail)
              go_wp2_with fail
              go_ret
              exact ⟨rfl, below_drewN (unhide K9) nq⟩
            · simp only [Value.slice.injEq, true_and] at he
              obtain ⟨rfl, rfl⟩ := he
              have kk2 : ∀ d', (convert 23 9 (.slice (some ⟨b, off, none⟩) o2 cap)).run Tryd.prog (wr.drewN d') = .ok (.string (txtB f o2)) (wr.drewN d') := fun d' => conv_lies (lies_drewN (.inr ⟨b, off, cap, rfl, fun h => hb1 (by omega), fun k hk => hb2 k (by omega)⟩) d')
              go_wp2_with fail
              go_quiet (fail)
              go_wp2_with fail
              go_ret
              exact ⟨rfl, below_drewN (unhide K9) nq⟩
      · go_wp2_with fail
        clear hcv
        refine (frame_any torn_lt (torn_lies wr) ((unhide HS).below (bal (unhide HB) _))).mono ?_
        intro e w3 hF
        obtain ⟨v3, rfl, o3⟩ := hF.2.1 (by omega)
        have b3 := hF.2.2
        obtain ⟨s3, c3, rfl⟩ := own_open o3 (by omega)
        have hc3 : 16 ≤ c3 := by
          rcases o3.2 with ⟨h, _⟩ | ⟨_, _, _, h, _, _, h2, _⟩
          · cases h
          · injection h with _ _ h
            subst h
            exact h2
        have B3 : Hid (Below wr.heap.size wr w3) := (bal (Below.refl wr.heap.size wr) _).trans (b3.mono (by simp))
        have A3 : Hid (w3.ownsRow w.heap.size 5 1 (.slice pl N cl) N (bcells (allF r m i) N)) := own_below (unhide HAL) (unhide B3)
        have L3 : Hid (BLies (frB tornN 8) (.slice (some ⟨s3, 0, none⟩) q c3) q w3) := .inr ⟨s3, 0, c3, rfl, fun _ => (o3.lt s3 rfl).2, fun k hk => by rw [Nat.zero_add, o3.cellAt k (by omega), bcells_get _ _ _ (by omega)]⟩
        have hz3 := (unhide B3).size
        have q1 : (q : Int) ≤ (c3 : Int) := by omega
        have K3 : Hid (Below w.heap.size w w3) := step_below (unhide HB) (Nat.le_refl _) (unhide B3)
        clear hF o3 b3
        go_wp2_with (at_builtin; refine wpList_append_bytes rfl _ _ rfl w.heap.size _ N (allF r m i) rfl (unhide A3) _ q (frB tornN 8) rfl (unhide L3) (by have := unhide HOF; omega) (by omega) ?_; intro v4 w4 ho4 hg4 _; obtain ⟨p4, c4, rfl, hc4, _⟩ := row_slice ho4; have O4 := hide ho4; have G4 : Hid (w3.grownBy w4 (Value.slice pl N cl).ownBlock) := hg4; clear ho4 hg4)
        have K4 : Hid (Below w.heap.size w w4) := Below.grown (unhide K3) (unhide G4) (by omega) (fun j hj => ((unhide HAL).lt j hj).1)
        have hz4 := (unhide K4).size
        refine (scan_any _ (cat_lt256 (allF_lt (unhide HR8) i) (frB_lt _ torn_lt _)) p4 (N + q) c4 hc4 (by have := unhide HOF; omega) w4 (BLies.of_own (unhide O4)) ((unhide HS).below (unhide K4))).mono ?_
        rintro e w5 ⟨v5, xs, o, rfl, hpre, hnw, hrow5, hsh5, hb5⟩
        obtain ⟨hxl, rfl, hxs⟩ := scan_laid (unhide HM2) (unhide HN) hq16 hpre hnw
        have K5 : Hid (Below w.heap.size w w5) := step_below (unhide K4) (Nat.le_refl _) hb5
        have W5 : Hid (w5.ownsRow w.heap.size 23 1 u8 i ws) := by
          have h3 := own_below (unhide HW) (unhide B3)
          exact own_below (h3.kept (unhide G4) (own_apart (unhide A3) h3 (by decide))) hb5
        have R5 : Hid (∀ j v, ws[j]? = some v → BLies (r j) v (m j) w5) := fun j v hj => by
          obtain ⟨h1, h2⟩ := unhide HRW j v hj
          exact BLies.of_own (own_below ((own_below h1 (unhide B3)).kept (unhide G4) h2) hb5)
        have X5 : Hid (∀ j x, xs[j]? = some x → BLies (r j) x.rcd (m j) w5) := fun j x hx => by
          obtain ⟨h1, h2⟩ := hxs j x hx
          have h3 := shown_lies (hsh5 x (List.mem_of_getElem? hx))
          have e : x.len - 8 = m j := by omega
          rw [e] at h3
          exact lies_ext h3 h2
        have S5 := hide (same_any r m i (by omega) v5 u8 (fun j => (xs.map Fr.rcd).getD j undef) (fun j => ws.getD j undef) w5 (VLies.of_own (by rw [hxl] at hrow5; exact hrow5) (by simp [hxl])) (VLies.of_own (unhide W5) (unhide HWS))
          (fun j hj => by
            have hj' : j < xs.length := by omega
            have hx : xs[j]? = some xs[j] := List.getElem?_eq_getElem hj'
            have e : (xs.map Fr.rcd).getD j undef = xs[j].rcd := by simp [List.getD, hj']
            show BLies (r j) ((xs.map Fr.rcd).getD j undef) (m j) w5
            rw [e]
            exact unhide X5 j _ hx)
          (fun j hj => by
            have hj' : j < ws.length := by have := unhide HWS; omega
            have hx : ws[j]? = some ws[j] := List.getElem?_eq_getElem hj'
            have e : ws.getD j undef = ws[j] := by simp [List.getD, hj']
            show BLies (r j) (ws.getD j undef) (m j) w5
            rw [e]
            exact unhide R5 j _ hx))
        clear hpre hnw hrow5 hsh5 hb5 hxs hxl hc4
        go_wp2_with fail
        refine (unhide S5).mono ?_
        rintro e w6 ⟨rfl, d6, hw6⟩
        have K6 : Hid (Below w.heap.size w w6) := by rw [hw6]; exact below_drewN (unhide K5) d6
        clear hw6
        have hz6 := (unhide K6).size
        have N6 := hide (World.ownsRow_lit (base := w6.heap.size) (e := 5) (size := 1) w6 #[] 0 (Nat.le_refl _) (by unfold maxLen; omega) rfl)
        have U6 := hide (fun o => ((unhide HA).below (unhide K6)).below (bal (Below.refl w6.heap.size w6) o))
        go_wp2_with (at_builtin; refine wpList_append_bytes rfl _ _ rfl w6.heap.size _ 0 (fun _ => 0) rfl (unhide N6) _ n f rfl (unhide U6 _) (by omega) (by simp) ?_; intro v7 w7 ho7 hg7 _; rw [cat_zero, Nat.zero_add] at ho7; obtain ⟨p7, c7, rfl, hc7, _⟩ := row_slice ho7; have O7 := hide ho7; have G7 := hide (Below.grown (bal (unhide K6) _) hg7 (by simp; omega) (fun k hk => Nat.le_trans (unhide K6).size ((unhide N6).lt k hk).1)); clear ho7 hg7)
        refine (scan_any f (unhide HF) p7 n c7 hc7 (by omega) w7 (BLies.of_own (unhide O7)) ((unhide HS).below (unhide G7))).mono ?_
        rintro e w8 ⟨v8, xs2, o2, rfl, hpre, hnw, hrow8, hsh8, hb8⟩
        obtain ⟨p8, c8, rfl, hc8, hp8⟩ := row_slice hrow8
        have K8 : Hid (Below w.heap.size w w8) := step_below (unhide G7) (Nat.le_refl _) hb8
        have P8 := hide hpre; have R8 := hide hrow8; have S8 := hide hsh8; have HP8 := hide hp8
        have ho2 := hpre.le
        have hl2 := hpre.count
        have he2 := hpre.end
        have HE2 := hide he2
        have hz8 := (unhide K8).size
        clear hpre hnw hrow8 hsh8 hb8 hc7 hc8 hp8 he2
        go_wp2_with fail
        go_loopw [18, 19] (fun vb vi wq => Lq f xs2 w8 vb vi wq) (fun _ vi _ => xs2.length - (intOf vi).toNat)
        case atStart => exact ⟨0, rfl, by omega, World.ownsRow_nil _ _ _ _, Below.refl _ _⟩
        case round =>
          obtain ⟨t, rfl, ht, hbk, hb9⟩ := hrel
          have BK := hide hbk; have B9 := hide hb9
          have hz9 := hb9.size
          clear hbk hb9
          have t0 : (0 : Int) ≤ (t : Int) := by omega
          have K9 : Hid (Below w.heap.size w wr) := step_below (unhide K8) (Nat.le_refl _) (unhide B9)
          by_cases htl : t < xs2.length
          · have t1 : (t : Int) < (xs2.length : Int) := by omega
            obtain ⟨x, hx⟩ : ∃ x, xs2[t]? = some x := ⟨_, List.getElem?_eq_getElem htl⟩
            obtain ⟨g8, rfl⟩ := unhide HP8 (by omega)
            have hcx : wr.cell? ⟨g8, t, none⟩ = some x.rcd := keep1 (unhide B9) ((unhide R8).lt g8 rfl).2 (((unhide R8).cellAt t (by omega)).trans (by rw [List.getElem?_map, hx]; rfl))
            obtain ⟨a1, a2, a3, a4, a5⟩ := pre_at (unhide P8) t x hx
            have a6 := a4.2.1
            have LX : Hid (BLies (sh f (x.at' + 8)) x.rcd (x.len - 8) wr) := (shown_lies (unhide S8 x (List.mem_of_getElem? hx))).below (unhide B9)
            have A1 := hide a1; have A2 := hide a2; have A3' := hide a3; have A4 := hide a4
            obtain ⟨xv, hxv⟩ : ∃ xv, x.rcd = xv := ⟨_, rfl⟩
            rw [hxv] at hcx LX
            clear a1 a2 a4 hxv hx
            go_wp2_with fail
            refine (frame_any (fun k => unhide HF _) (unhide LX) ((unhide HS).below (unhide K9))).mono ?_
            intro e w9 hF
            obtain ⟨v9, rfl, o9⟩ := hF.2.1 (by omega)
            have b10 := hF.2.2
            have O9 := hide o9; have B10 := hide b10
            have hz10 := b10.size
            clear hF o9 b10 hcx
            go_wp2_with (at_builtin; refine wpList_append_bytes rfl _ _ rfl w8.heap.size _ (endN (xs2.take t)) f rfl (own_below (unhide BK) (unhide B10)) _ (8 + (x.len - 8)) (frB (sh f (x.at' + 8)) (x.len - 8)) rfl (BLies.of_own (unhide O9)) (by have := unhide A1; have := x.lo; omega) (by omega) ?_; intro v10 w10 ho10 hg10 _; have O10 := hide ho10; have G10 := hide hg10; clear ho10 hg10)
            refine ⟨⟨t + 1, by simp, by omega, ?_, ?_⟩, by simp [intOf]; omega⟩
            · have h := unhide O10
              rw [← unhide A1, back_step (unhide A4) (unhide A3')] at h
              have hlo := x.lo
              rw [show x.at' + (8 + (x.len - 8)) = x.at' + x.len by omega] at h
              rw [unhide A2]
              exact h
            · exact Below.grown (step_below (unhide B9) (Nat.le_refl _) (unhide B10)) (unhide G10) (by omega) (fun j hj => ((unhide BK).lt j hj).1)
          · have t1 : ¬ (t : Int) < (xs2.length : Int) := by omega
            have et : t = xs2.length := by omega
            have hbk := unhide BK
            rw [et, List.take_length, unhide HE2] at hbk
            obtain ⟨pb, cb, rfl, hcb, _⟩ := row_slice hbk
            have kk1 : ∀ d', (convert 23 9 (.slice pb o2 cb)).run Tryd.prog (wr.drewN d') = .ok (.string (txtB f o2)) (wr.drewN d') := fun d' => conv_lies (lies_drewN (BLies.of_own hbk) d')
            have oi : (o2 : Int) ≤ (n : Int) := by omega
            have oi2 : (o2 : Int) ≤ (cap : Int) := by omega
            have oi3 : (0 : Int) ≤ (o2 : Int) := by omega
            clear hbk
            rcases (unhide HA).below (unhide K9) with ⟨h0, he⟩ | ⟨b, off, cp, he, hb1, hb2⟩
            · simp only [Value.slice.injEq] at he
              obtain ⟨rfl, rfl, rfl⟩ := he
              obtain rfl : o2 = 0 := by omega
              have kk2 : ∀ d', (convert 23 9 (.slice none 0 0)).run Tryd.prog (wr.drewN d') = .ok (.string (txtB f 0)) (wr.drewN d') := fun d' => conv_lies (.inl ⟨rfl, rfl⟩)
              go_wp2_with fail
              go_quiet (fail)
              go_wp2_with fail
              go_ret
              exact ⟨rfl, below_drewN (unhide K9) nq⟩
            · simp only [Value.slice.injEq, true_and] at he
              obtain ⟨rfl, rfl⟩ := he
              have kk2 : ∀ d', (convert 23 9 (.slice (some ⟨b, off, none⟩) o2 cap)).run Tryd.prog (wr.drewN d') = .ok (.string (txtB f o2)) (wr.drewN d') := fun d' => conv_lies (lies_drewN (.inr ⟨b, off, cap, rfl, fun h => hb1 (by omega), fun k hk => hb2 k (by omega)⟩) d')
              go_wp2_with fail
              go_quiet (fail)
              go_wp2_with fail
              go_ret
              exact ⟨rfl, below_drewN (unhide K9) nq⟩
end Go.Proofs.YtpeebhddpmggdaaDoor
