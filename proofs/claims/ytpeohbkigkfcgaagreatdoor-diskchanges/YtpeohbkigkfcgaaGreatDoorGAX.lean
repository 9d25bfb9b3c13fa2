import Derived.Test.YtpeohbkigkfcgaaGreatDoorGAV
import Derived.Test.YtpeohbkigkfcgaaGreatDoorGAN
import Derived.Test.YtpeohbkigkfcgaaGreatDoorGAW
import Derived.Test.YtpeohbkigkfcgaaGreatDoorGAG
set_option linter.unusedVariables false
set_option linter.unusedSimpArgs false
set_option maxRecDepth 100000
set_option maxHeartbeats 16000000
namespace Go.Proofs.YtpeohbkigkfcgaaGreatDoor
open Go Go.ChangeShapes Go.WideShapes Go.ChangeAt Go.RowKit
attribute [local go_sem] setCell_drewN alloc_drewN
theorem made_newN {w0 w : World} {y N j : Nat} {T : Nat -> Option Tw} {U : Nat -> Prop} (h : PlayIs w0 w y N T U) (hj : j < 3) (hN : N < 800000) (o : OpV) (hd : o.d = (j : Int)) (hk : o.kd = 1) (ho : OpIn w0 o) (hx : canBe 0 o.n = false) :
  Calls Tryz.prog 15 #[.pointer (some ⟨y, 0, none⟩), o.val] w fun e w' => e = .returned (.bool true) /\ ∃ T' U', PlayIs w0 w' y (N + 64) T' U' := by
 have hyl := h.kb.lt
 have hyw : w0.heap.size <= y := h.yl
 obtain ⟨w1, hw1⟩ : ∃ w1, w1 = w.alloc (.cells #[.int .i64 (j : Int), .int .i64 1, .string o.nm, .string o.to, .slice o.pu o.b2.length o.cu, .int .i64 o.pos, .int .i64 o.n, .slice o.pk o.ks.length o.ck, .int .i64 o.cp, .slice o.pf o.fs.length o.cf, .int .i64 o.fu, .bool o.dn] 61) := ⟨_, rfl⟩
 have B1 : Hid (Below w.heap.size w w1) := by rw [hw1]; exact bal (Below.refl _ _) _
 have hz1 : w1.heap.size = w.heap.size + 1 := by rw [hw1]; simp
 have e0 : w1.cell? ⟨w.heap.size, 0, none⟩ = some (.int .i64 (j : Int)) := by rw [hw1]; simp
 have e1 : w1.cell? ⟨w.heap.size, 1, none⟩ = some (.int .i64 1) := by rw [hw1]; simp
 have b6 : w1.cell? ⟨w.heap.size, 6, none⟩ = some (.int .i64 o.n) := by rw [hw1]; simp
 have HF : Hid (∀ W, Below w.heap.size w W -> PlayIs w0 W y N T U) := fun W hb => h.below hb
 have HFR : Hid (∀ q, w.heap.size <= q -> w0.heap.size <= q /\ q ≠ y /\ ¬ U q /\ ∀ i, i < 3 -> ∀ t, T i = some t -> ¬ t.fp q) := fun q hq => ⟨Nat.le_trans h.bl.size hq, by omega, fun e => by have := (h.kb.ul q e).2.2; omega, fun i hi t ht e => by have := (h.tw i hi t ht).lt e; omega⟩
 have hjI : (0 : Int) <= (j : Int) := by omega
 have hjI3 : (j : Int) < 3 := by omega
 unfold OpV.val
 rw [hd, hk]
 have HX := hide hx
 clear h hd hk ho hx
 go_enter Tryz.func15, Tryz.ntmps15
 go_wp2_with fail
 rw [<- hw1]
 clear hw1
 go_wp2_with fail
 refine (new_no o.n (uh HX) w1).mono ?_
 rintro r w2 ⟨rfl, hw⟩
 rw [hw]
 clear hw w2
 go_wp2_with fail
 refine (rnew_no o.n (uh HX) w1).mono ?_
 rintro r w2 ⟨rfl, hw⟩
 rw [hw]
 clear hw w2
 have yp := (uh HF w1 (uh B1)).p j hj
 have yd := (uh HF w1 (uh B1)).d j hj
 have fz := (uh HF w1 (uh B1)).kb.fz
 have HP := hide ((uh HF w1 (uh B1)).put hj none (fun t ht => by cases ht))
 clear e1 b6
 go_wp2_with fail
 refine wp_region_last (n := 7) (S := fun W => W.cell? ⟨w.heap.size, 0, none⟩ = some (.int .i64 (j : Int))) (by kernel_rfl) (by first | (exact e0)) (fun hHeld => ?_)
 refine tkW 0 ?_; refine tkW 1 ?_; refine tkS 2 ?_; refine tkW 3 ?_; refine tkW 4 ?_; refine tkW 5 ?_; refine tkW 6 ?_
 refine wpAnyL_end (i := 7) (by kernel_rfl) rfl (by kernel_rfl) (by kernel_rfl) (fun KK hK => ?_)
 go_simp
 refine hK.out _ _ ?_
 clear hK KK
 go_wp2_with fail
 refine wp_region_last (n := 7) (S := fun W => W.cell? ⟨w.heap.size, 0, none⟩ = some (.int .i64 (j : Int))) (by kernel_rfl) (by first | (exact (World.cell?_setCell_other w1 _ _ _ (by intro h'; injection h' with h' _ _; omega)).trans e0)) (fun hHeld => ?_)
 refine tkW 0 ?_; refine tkW 1 ?_; refine tkS 2 ?_; refine tkW 3 ?_; refine tkW 4 ?_; refine tkW 5 ?_; refine tkW 6 ?_
 refine wpAnyL_end (i := 7) (by kernel_rfl) rfl (by kernel_rfl) (by kernel_rfl) (fun KK hK => ?_)
 go_simp
 refine hK.out _ _ ?_
 clear hK KK
 go_wp2_with fail
 refine (num_any _ _).mono ?_
 rintro r wz ⟨rfl, hw⟩
 rw [hw]
 clear hw wz
 go_wp2_with fail
 refine (num_any _ _).mono ?_
 rintro r wz ⟨rfl, hw⟩
 rw [hw]
 clear hw wz
 go_wp2_with fail
 go_ret
 exact ⟨rfl, _, _, ((uh HP).below (Below.refl _ _).drew.drew).mono (by omega)⟩
theorem made_newY {w0 w : World} {y N j : Nat} {T : Nat -> Option Tw} {U : Nat -> Prop} (h : PlayIs w0 w y N T U) (hj : j < 3) (hN : N < 800000) (o : OpV) (hd : o.d = (j : Int)) (hk : o.kd = 1) (ho : OpIn w0 o) (hx : canBe 0 o.n = true) :
  Calls Tryz.prog 15 #[.pointer (some ⟨y, 0, none⟩), o.val] w fun e w' => e = .returned (.bool true) /\ ∃ T' U', PlayIs w0 w' y (N + 64) T' U' := by
 have hyl := h.kb.lt
 have hyw : w0.heap.size <= y := h.yl
 obtain ⟨w1, hw1⟩ : ∃ w1, w1 = w.alloc (.cells #[.int .i64 (j : Int), .int .i64 1, .string o.nm, .string o.to, .slice o.pu o.b2.length o.cu, .int .i64 o.pos, .int .i64 o.n, .slice o.pk o.ks.length o.ck, .int .i64 o.cp, .slice o.pf o.fs.length o.cf, .int .i64 o.fu, .bool o.dn] 61) := ⟨_, rfl⟩
 have B1 : Hid (Below w.heap.size w w1) := by rw [hw1]; exact bal (Below.refl _ _) _
 have hz1 : w1.heap.size = w.heap.size + 1 := by rw [hw1]; simp
 have e0 : w1.cell? ⟨w.heap.size, 0, none⟩ = some (.int .i64 (j : Int)) := by rw [hw1]; simp
 have e1 : w1.cell? ⟨w.heap.size, 1, none⟩ = some (.int .i64 1) := by rw [hw1]; simp
 have b6 : w1.cell? ⟨w.heap.size, 6, none⟩ = some (.int .i64 o.n) := by rw [hw1]; simp
 have HF : Hid (∀ W, Below w.heap.size w W -> PlayIs w0 W y N T U) := fun W hb => h.below hb
 have HFR : Hid (∀ q, w.heap.size <= q -> w0.heap.size <= q /\ q ≠ y /\ ¬ U q /\ ∀ i, i < 3 -> ∀ t, T i = some t -> ¬ t.fp q) := fun q hq => ⟨Nat.le_trans h.bl.size hq, by omega, fun e => by have := (h.kb.ul q e).2.2; omega, fun i hi t ht e => by have := (h.tw i hi t ht).lt e; omega⟩
 have hjI : (0 : Int) <= (j : Int) := by omega
 have hjI3 : (j : Int) < 3 := by omega
 unfold OpV.val
 rw [hd, hk]
 have HX := hide hx
 clear h hd hk ho hx
 go_enter Tryz.func15, Tryz.ntmps15
 go_wp2_with fail
 rw [<- hw1]
 clear hw1
 go_wp2_with fail
 refine (new_ok o.n (uh HX) w1).mono ?_
 rintro r w2 ⟨rfl, hd2, hb2⟩
 have D2 := hide hd2
 have B2 : Hid (Below w.heap.size w w2) := (uh B1).trans (hb2.mono (uh B1).size)
 have hz2 : w1.heap.size <= w2.heap.size := hb2.size
 have E2 := keep1 hb2 (by show w.heap.size < w1.heap.size; omega) e0
 have n6 := keep1 hb2 (by show w.heap.size < w1.heap.size; omega) b6
 clear hd2 hb2 e0 e1 b6
 go_wp2_with fail
 refine (rnew_ok o.n (uh HX) w2).mono ?_
 rintro r w3 ⟨rfl, hr3, hb3⟩
 have R3 := hide hr3
 have D3 := hide ((uh D2).below hb3)
 have B3 : Hid (Below w.heap.size w w3) := (uh B2).trans (hb3.mono (uh B2).size)
 have hz3 : w2.heap.size <= w3.heap.size := hb3.size
 have x0 : w3.cell? ⟨w.heap.size, 0, none⟩ = some (.int .i64 (j : Int)) := keep1 hb3 (by show w.heap.size < w2.heap.size; omega) E2
 have yp := (uh HF w3 (uh B3)).p j hj
 have yd := (uh HF w3 (uh B3)).d j hj
 have fz := (uh HF w3 (uh B3)).kb.fz
 have HP := hide ((uh HF w3 (uh B3)).put hj (some ⟨w1.heap.size, w2.heap.size, ⟨o.n, [], -1, false⟩, fun q => q = w1.heap.size, fun q => q = w2.heap.size⟩) (fun t ht => by
  injection ht with ht
  subst ht
  have hlt2 : w1.heap.size < w2.heap.size := (uh D2).sl _ rfl
  exact ⟨⟨(uh D3).mono (Nat.zero_le _), uh R3, Inv.new (uh HX) (by decide), fun q h1 h2 => by have h1 : q = w1.heap.size := h1; have h2 : q = w2.heap.size := h2; omega⟩, fun q hq => by
   rcases hq with hq | hq
   ·have hq : q = w1.heap.size := hq
    exact uh HFR q (by omega)
   ·have hq : q = w2.heap.size := hq
    exact uh HFR q (by omega)⟩))
 clear hr3 hb3 E2 n6
 go_wp2_with fail
 refine wp_region_last (n := 7) (S := fun W => W.cell? ⟨w.heap.size, 0, none⟩ = some (.int .i64 (j : Int))) (by kernel_rfl) (by first | (exact x0)) (fun hHeld => ?_)
 refine tkW 0 ?_; refine tkW 1 ?_; refine tkS 2 ?_; refine tkW 3 ?_; refine tkW 4 ?_; refine tkW 5 ?_; refine tkW 6 ?_
 refine wpAnyL_end (i := 7) (by kernel_rfl) rfl (by kernel_rfl) (by kernel_rfl) (fun KK hK => ?_)
 go_simp
 refine hK.out _ _ ?_
 clear hK KK
 go_wp2_with fail
 refine wp_region_last (n := 7) (S := fun W => W.cell? ⟨w.heap.size, 0, none⟩ = some (.int .i64 (j : Int))) (by kernel_rfl) (by first | (exact (World.cell?_setCell_other w3 _ _ _ (by intro h'; injection h' with h' _ _; omega)).trans x0)) (fun hHeld => ?_)
 refine tkW 0 ?_; refine tkW 1 ?_; refine tkS 2 ?_; refine tkW 3 ?_; refine tkW 4 ?_; refine tkW 5 ?_; refine tkW 6 ?_
 refine wpAnyL_end (i := 7) (by kernel_rfl) rfl (by kernel_rfl) (by kernel_rfl) (fun KK hK => ?_)
 go_simp
 refine hK.out _ _ ?_
 clear hK KK
 go_wp2_with fail
 refine (num_any _ _).mono ?_
 rintro r wz ⟨rfl, hw⟩
 rw [hw]
 clear hw wz
 go_wp2_with fail
 refine (num_any _ _).mono ?_
 rintro r wz ⟨rfl, hw⟩
 rw [hw]
 clear hw wz
 go_wp2_with fail
 go_ret
 rw [hz1] at HP
 exact ⟨rfl, _, _, ((uh HP).below (Below.refl _ _).drew.drew).mono (by omega)⟩
theorem made_fromN {w0 w : World} {y N j : Nat} {T : Nat -> Option Tw} {U : Nat -> Prop} (h : PlayIs w0 w y N T U) (hj : j < 3) (hN : N < 800000) (o : OpV) (hd : o.d = (j : Int)) (hk : o.kd = 2) (ho : OpIn w0 o) (hv : validV o.cp o.fs o.fu o.dn = false) :
  Calls Tryz.prog 15 #[.pointer (some ⟨y, 0, none⟩), o.val] w fun e w' => e = .returned (.bool true) /\ ∃ T' U', PlayIs w0 w' y (N + 64) T' U' := by
 have hyl := h.kb.lt
 have hyw : w0.heap.size <= y := h.yl
 obtain ⟨w1, hw1⟩ : ∃ w1, w1 = w.alloc (.cells #[.int .i64 (j : Int), .int .i64 2, .string o.nm, .string o.to, .slice o.pu o.b2.length o.cu, .int .i64 o.pos, .int .i64 o.n, .slice o.pk o.ks.length o.ck, .int .i64 o.cp, .slice o.pf o.fs.length o.cf, .int .i64 o.fu, .bool o.dn] 61) := ⟨_, rfl⟩
 have B1 : Hid (Below w.heap.size w w1) := by rw [hw1]; exact bal (Below.refl _ _) _
 have hz1 : w1.heap.size = w.heap.size + 1 := by rw [hw1]; simp
 have e0 : w1.cell? ⟨w.heap.size, 0, none⟩ = some (.int .i64 (j : Int)) := by rw [hw1]; simp
 have e1 : w1.cell? ⟨w.heap.size, 1, none⟩ = some (.int .i64 2) := by rw [hw1]; simp
 have b8 : w1.cell? ⟨w.heap.size, 8, none⟩ = some (.int .i64 o.cp) := by rw [hw1]; simp
 have b9 : w1.cell? ⟨w.heap.size, 9, none⟩ = some (.slice o.pf o.fs.length o.cf) := by rw [hw1]; simp
 have b10 : w1.cell? ⟨w.heap.size, 10, none⟩ = some (.int .i64 o.fu) := by rw [hw1]; simp
 have b11 : w1.cell? ⟨w.heap.size, 11, none⟩ = some (.bool o.dn) := by rw [hw1]; simp
 have HF : Hid (∀ W, Below w.heap.size w W -> PlayIs w0 W y N T U) := fun W hb => h.below hb
 have HFR : Hid (∀ q, w.heap.size <= q -> w0.heap.size <= q /\ q ≠ y /\ ¬ U q /\ ∀ i, i < 3 -> ∀ t, T i = some t -> ¬ t.fp q) := fun q hq => ⟨Nat.le_trans h.bl.size hq, by omega, fun e => by have := (h.kb.ul q e).2.2; omega, fun i hi t ht e => by have := (h.tw i hi t ht).lt e; omega⟩
 have HPW : Hid (Kt.Pw w) := h.kb.tab
 have HFS : Hid (∀ W, Below w.heap.size w W -> FilesIn W o.pf o.fs) := fun W hb => (ho.below (h.bl.trans (hb.mono h.bl.size))).fs
 have hlm := ho.fl
 have HBL := hide ho.fb
 have HNM := hide ho.fn
 have HV := hide hv
 obtain ⟨CP, hCP⟩ : ∃ CP, CP = o.cp := ⟨_, rfl⟩
 obtain ⟨FU, hFU⟩ : ∃ FU, FU = o.fu := ⟨_, rfl⟩
 obtain ⟨DN, hDN⟩ : ∃ DN, DN = o.dn := ⟨_, rfl⟩
 obtain ⟨l, hl⟩ : ∃ l, l = o.fs := ⟨_, rfl⟩
 obtain ⟨pf, hpf⟩ : ∃ pf, pf = o.pf := ⟨_, rfl⟩
 obtain ⟨cf, hcf⟩ : ∃ cf, cf = o.cf := ⟨_, rfl⟩
 rw [<- hl] at hlm HBL HNM b9
 rw [<- hl, <- hCP, <- hFU, <- hDN] at HV
 rw [<- hl, <- hpf] at HFS
 rw [<- hCP] at b8
 rw [<- hpf, <- hcf] at b9
 rw [<- hFU] at b10
 rw [<- hDN] at b11
 rw [<- hl, <- hpf, <- hcf, <- hCP, <- hFU, <- hDN] at hw1
 have hjI : (0 : Int) <= (j : Int) := by omega
 have hjI3 : (j : Int) < 3 := by omega
 unfold OpV.val
 rw [hd, hk]
 rw [<- hl, <- hpf, <- hcf, <- hCP, <- hFU, <- hDN]
 obtain ⟨x2, hx2⟩ : ∃ x2, x2 = w1.alloc (.cells #[.int .i64 CP, .slice pf l.length cf, .int .i64 FU, .bool DN] 59) := ⟨_, rfl⟩
 have A2 : Hid (Below w1.heap.size w1 x2) := by rw [hx2]; exact bal (Below.refl _ _) _
 have zx2 : x2.heap.size = w1.heap.size + 1 := by rw [hx2]; simp
 have hs2 : w.heap.size + 1 < x2.heap.size := by omega
 have SB0 : Hid (x2.cell? ⟨w.heap.size + 1, 0, none⟩ = some (.int .i64 CP)) := by show _ = _; rw [hx2, <- hz1]; go_simp
 have SB1 : Hid (x2.cell? ⟨w.heap.size + 1, 1, none⟩ = some (.slice pf l.length cf)) := by show _ = _; rw [hx2, <- hz1]; go_simp
 have SB2 : Hid (x2.cell? ⟨w.heap.size + 1, 2, none⟩ = some (.int .i64 FU)) := by show _ = _; rw [hx2, <- hz1]; go_simp
 have SB3 : Hid (x2.cell? ⟨w.heap.size + 1, 3, none⟩ = some (.bool DN)) := by show _ = _; rw [hx2, <- hz1]; go_simp
 have BX2 : Hid (Below w.heap.size w x2) := (uh B1).trans ((uh A2).mono (uh B1).size)
 have O0 := hide (keep1 (uh A2) (by show w.heap.size < w1.heap.size; omega) e0)
 have FIN := hide (uh HFS x2 (uh BX2))
 have PW := hide ((uh HPW).below (uh BX2))
 clear h hd hk ho hv hl hpf hcf hCP hFU hDN
 go_enter Tryz.func15, Tryz.ntmps15
 go_wp2_with fail
 rw [<- hw1]
 clear hw1
 go_wp2_with fail
 rw [<- hx2]
 clear hx2 e0 e1 b8 b9 b10 b11
 refine (loosened_ok CP FU DN pf cf l (uh FIN) hlm (uh HBL) (uh PW)).mono ?_
 rintro r w3 ⟨g, c, lv, fv, gr, cr, rfl, hLo, hroom, hb3⟩
 obtain ⟨pl, cl, hlv⟩ := row_form hLo.lr
 subst hlv
 have LO3 := hide hLo
 have RM3 := hide hroom
 have hgr := hroom.lt gr rfl
 have hz3 : x2.heap.size <= w3.heap.size := hb3.size
 have C3 : Hid (Below x2.heap.size x2 w3) := hb3
 obtain ⟨x3, hx3⟩ : ∃ x3, x3 = w3.alloc (.cells #[.int .i64 CP, .slice (some ⟨gr, 0, none⟩) l.length cr, .int .i64 FU, .bool DN] 59) := ⟨_, rfl⟩
 have A3 : Hid (Below w3.heap.size w3 x3) := by rw [hx3]; exact bal (Below.refl _ _) _
 have zx3 : x3.heap.size = w3.heap.size + 1 := by rw [hx3]; simp
 have i0 : x3.cell? ⟨w3.heap.size, 0, none⟩ = some (.int .i64 CP) := by rw [hx3]; simp
 have i1 : x3.cell? ⟨w3.heap.size, 1, none⟩ = some (.slice (some ⟨gr, 0, none⟩) l.length cr) := by rw [hx3]; simp
 have i2 : x3.cell? ⟨w3.heap.size, 2, none⟩ = some (.int .i64 FU) := by rw [hx3]; simp
 have i3 : x3.cell? ⟨w3.heap.size, 3, none⟩ = some (.bool DN) := by rw [hx3]; simp
 have Cx3 : Hid (Below x2.heap.size x2 x3) := (uh C3).trans ((uh A3).mono (uh C3).size)
 have FAP := hide ((lo_files hLo hroom).below (uh A3))
 clear hLo hroom hb3
 go_wp2_with fail
 rw [<- hx3]
 clear hx3
 refine (from_no CP FU DN (some ⟨gr, 0, none⟩) cr l (uh FAP).in (uh HNM) (fun f hf => by have := uh HBL f hf; omega) (uh HV)).mono ?_
 rintro r w4 ⟨rfl, hb4⟩
 have C34 : Hid (Below x3.heap.size x3 w4) := hb4
 have C4 : Hid (Below x2.heap.size x2 w4) := (uh Cx3).trans (hb4.mono (uh Cx3).size)
 have hz4 : x3.heap.size <= w4.heap.size := hb4.size
 have FI4 := hide ((uh FIN).below (uh C4))
 have s0 := keep1 (uh C4) hs2 (uh SB0)
 have s1 := keep1 (uh C4) hs2 (uh SB1)
 have s2 := keep1 (uh C4) hs2 (uh SB2)
 have s3 := keep1 (uh C4) hs2 (uh SB3)
 clear hb4
 go_wp2_with fail
 refine (rfrom_no CP FU DN pf cf l (uh FI4) (by omega) (uh HNM) (fun f hf => by have := uh HBL f hf; omega) (uh HV)).mono ?_
 rintro r w5 ⟨rfl, hb5⟩
 have C45 : Hid (Below w4.heap.size w4 w5) := hb5
 have C5 : Hid (Below x2.heap.size x2 w5) := (uh C4).trans (hb5.mono (uh C4).size)
 have C35 : Hid (Below x3.heap.size x3 w5) := (uh C34).trans (hb5.mono (uh C34).size)
 have hz5 : w4.heap.size <= w5.heap.size := hb5.size
 have s0 := keep1 hb5 (by omega) s0
 have s1 := keep1 hb5 (by omega) s1
 have s2 := keep1 hb5 (by omega) s2
 have s3 := keep1 hb5 (by omega) s3
 have i0 := keep1 (uh C35) (by omega) i0
 have i1 := keep1 (uh C35) (by omega) i1
 have i2 := keep1 (uh C35) (by omega) i2
 have i3 := keep1 (uh C35) (by omega) i3
 have hsm := hide (same_in (w := w5) CP FU DN (some ⟨gr, 0, none⟩) pf cr cf l ((uh FAP).in.below (uh C35)) ((uh FIN).below (uh C5)) hlm)
 clear hb5
 go_wp2_with fail
 refine (num_any _ _).mono ?_
 rintro r wz ⟨rfl, hw⟩
 rw [hw]
 clear hw wz
 go_wp2_with fail
 refine (num_any _ _).mono ?_
 rintro r wz ⟨rfl, hw⟩
 rw [hw]
 clear hw wz
 go_wp2_with fail
 refine (uh hsm).mono ?_
 rintro r w6 ⟨rfl, hb6⟩
 have C56 : Hid (Below w5.heap.size w5 w6) := hb6
 have C6 : Hid (Below x2.heap.size x2 w6) := (uh C5).trans (hb6.mono (uh C5).size)
 have hz6 : w5.heap.size <= w6.heap.size := hb6.size
 have C36 : Hid (Below w3.heap.size w3 w6) := ((uh A3).trans ((uh C35).mono (uh A3).size)).trans (hb6.mono (by omega))
 clear hb6 hsm s0 s1 s2 s3 i0 i1 i2 i3
 go_wp2_with fail
 go_loopw [17, 18] (fun ok u wr => ∃ i : Nat, i <= l.length /\ ok = .bool true /\ u = .int .i64 (i : Int) /\ Below w6.heap.size w6 wr) (fun _ u _ => l.length - (intOf u).toNat)
 case atStart => exact ⟨0, Nat.zero_le _, rfl, rfl, Below.refl _ _⟩
 case round =>
  obtain ⟨i, hi, rfl, rfl, hbr⟩ := hrel
  have HBR := hide hbr
  have CR2 : Hid (Below x2.heap.size x2 wr) := (uh C6).trans (hbr.mono (uh C6).size)
  have CR3 : Hid (Below w3.heap.size w3 wr) := (uh C36).trans (hbr.mono (uh C36).size)
  by_cases hlt : i < l.length
  ·have hne : l ≠ [] := fun e => by rw [e] at hlt; simp at hlt
   obtain ⟨x, hx⟩ : ∃ x, l[i]? = some x := ⟨_, List.getElem?_eq_getElem hlt⟩
   obtain ⟨b, off, hpf, hcell⟩ := uh FIN hne
   obtain ⟨p, cx, _, f1, _, hby⟩ := hcell i x hx
   have hxd : l[i]?.getD default = x := by rw [hx]; rfl
   have hgl : ∃ gl, pl = some ⟨gl, 0, none⟩ := by
    rcases (uh LO3).lr.2 with ⟨_, h2⟩ | ⟨gl, cap, cur, h1, _⟩
    ·omega
    ·injection h1 with h1 _ _; exact ⟨gl, h1⟩
   obtain ⟨gl, hpl⟩ := hgl
   subst hpl hpf
   have l1 : wr.cell? ⟨gl, i, none⟩ = some (.slice (some ⟨g i, 0, none⟩) (x.bs.length + 64) (c i)) := by
    rw [World.cell?_of_block ((uh CR3).block gl ((uh LO3).lr.lt gl rfl).2), (uh LO3).lr.cellAt i (by omega), lcells_get _ _ _ _ _ hlt, hxd]
   have l2 : wr.cell? ⟨w.heap.size + 1, 1, none⟩ = some (.slice (some ⟨b, off, none⟩) l.length cf) := keep1 (uh CR2) hs2 (uh SB1)
   have l3 : wr.cell? ⟨b, off + i * 3 + 1, none⟩ = some (.slice p x.bs.length cx) := keep1 (uh CR2) (World.block_lt_of_cell? x2 _ f1) f1
   have hls := (uh LO3).ls i hlt
   rw [hxd] at hls
   have hkp := hide (Kp.kept_in (w := wr.drew) (hby.below (uh CR2).drew) (uh HBL x (List.mem_of_getElem? hx)) (g i) (c i) (fun k hk => by
    have h9 := (row_far hls (fun q hq => (uh CR3).block q (hls.lt q hq).2)).cellAt k (by omega)
    rw [Kp.bcells_get _ _ _ hk] at h9
    exact h9))
   have hI : (i : Int) < (l.length : Int) := by omega
   have hI0 : (0 : Int) <= (i : Int) := by omega
   clear hbr hne hx hcell f1 hby hxd hls
   go_wp2_with fail
   refine wp_region_last (n := 15) (S := fun W => W.cell? ⟨gl, i, none⟩ = some (.slice (some ⟨g i, 0, none⟩) (x.bs.length + 64) (c i)) /\ W.cell? ⟨w.heap.size + 1, 1, none⟩ = some (.slice (some ⟨b, off, none⟩) l.length cf) /\ W.cell? ⟨b, off + i * 3 + 1, none⟩ = some (.slice p x.bs.length cx)) (by kernel_rfl) (by first | (exact ⟨l1, l2, l3⟩)) (fun hHeld => ?_)
   refine tkW 0 ?_; refine tkW 1 ?_; refine tkW 2 ?_; refine tkW 3 ?_; refine tkW 4 ?_; refine tkN 5 ?_; refine tkW 6 ?_; refine tkN 7 ?_; refine tkW 8 ?_; refine tkW 9 ?_; refine tkW 10 ?_
   refine tkN 11 ?_
   refine wpAnyL_one (i := 12) (by kernel_rfl) rfl (fun KK hK => ?_)
   go_simp
   go_at_call 95
   refine (uh hkp).mono ?_
   rintro r w7 ⟨rfl, m, hw7⟩
   have B7 : Hid (Below wr.heap.size wr w7) := by rw [hw7]; exact ⟨rfl, rfl, rfl, Nat.le_refl _, fun _ _ => rfl⟩
   have l1 : w7.cell? ⟨gl, i, none⟩ = some (.slice (some ⟨g i, 0, none⟩) (x.bs.length + 64) (c i)) := by rw [hw7]; exact l1
   have l2 : w7.cell? ⟨w.heap.size + 1, 1, none⟩ = some (.slice (some ⟨b, off, none⟩) l.length cf) := by rw [hw7]; exact l2
   have l3 : w7.cell? ⟨b, off + i * 3 + 1, none⟩ = some (.slice p x.bs.length cx) := by rw [hw7]; exact l3
   clear hw7
   refine hK.out _ _ (by first | (exact ⟨l1, l2, l3⟩)) (fun hHeld => ?_)
   clear hK KK
   refine tkW 13 ?_; refine tkW 14 ?_
   refine wpAnyL_done (by kernel_rfl) ?_
   go_wp2_with fail
   exact ⟨⟨i + 1, by omega, rfl, by go_num, (uh HBR).trans ((uh B7).mono (uh HBR).size)⟩, by simp [intOf]; omega⟩
  ·have hI : ¬ (i : Int) < (l.length : Int) := by omega
   have hkf := hide (keptf_in (W := wr) (ca := cf) ((uh FIN).below (uh CR2)) (row_far (uh RM3) (fun q hq => (uh CR3).block q ((uh RM3).lt q hq).2)) ((uh PW).below (uh CR2)) hlm)
   have l2 : wr.cell? ⟨w.heap.size + 1, 1, none⟩ = some (.slice pf l.length cf) := keep1 (uh CR2) hs2 (uh SB1)
   have hz7 : w6.heap.size <= wr.heap.size := hbr.size
   clear hbr
   go_wp2_with fail
   refine (uh hkf).mono ?_
   rintro r w8 ⟨rfl, hb8⟩
   have C8 : Hid (Below x2.heap.size x2 w8) := (uh CR2).trans (hb8.mono (uh CR2).size)
   have C38 : Hid (Below w3.heap.size w3 w8) := (uh CR3).trans (hb8.mono (uh CR3).size)
   have C59 : Hid (Below w5.heap.size w5 w8) := ((uh C56).trans ((uh HBR).mono (uh C56).size)).trans (hb8.mono (by omega))
   have hz8 : wr.heap.size <= w8.heap.size := hb8.size
   obtain ⟨X, hX⟩ : ∃ X : Nat -> Prop, X = fun q => (∃ i, i < l.length /\ q = g i) \/ q = gr := ⟨_, rfl⟩
   have hXl : ∀ q, X q -> x2.heap.size <= q /\ q < w3.heap.size := fun q hq => by
    rw [hX] at hq
    rcases hq with ⟨i, hi, e⟩ | e
    ·rw [e]; exact (((uh LO3).ls i hi).lt (g i) rfl)
    ·rw [e]; exact hgr
   have LO8 := hide ((uh LO3).below (uh C38))
   have RM8 := hide (row_far (uh RM3) (fun q hq => (uh C38).block q ((uh RM3).lt q hq).2))
   have hOv : Calls Tryz.prog 97 #[.slice pl l.length cl, .slice (some ⟨gr, 0, none⟩) (l.length + 64) cr] w8 fun e w' => e = .returned (.tuple #[]) /\ Ov w8 w' X := by
    have hgl : ∃ gl, (0 < l.length -> pl = some ⟨gl, 0, none⟩) /\ ¬ X gl /\ ∀ i, i < l.length -> w8.cell? ⟨gl, i, none⟩ = some (.slice (some ⟨g i, 0, none⟩) ((l[i]?.getD default).bs.length + 64) (c i)) := by
     rcases (uh LO8).lr.2 with ⟨_, h2⟩ | ⟨gl, cap, cur, h1, _⟩
     ·exact ⟨w8.heap.size, fun h => by omega, fun h => by have := hXl _ h; omega, fun i hi => by omega⟩
     ·injection h1 with h1 _ _
      refine ⟨gl, fun _ => h1, fun h => ?_, fun i hi => ?_⟩
      ·rw [hX] at h
       rcases h with ⟨i, hi, e⟩ | e
       ·exact rows_apart (uh LO8).lr ((uh LO8).ls i hi) (by decide) (by rw [h1]; rfl) (by rw [e]; rfl)
       ·exact rows_apart (uh LO8).lr (uh RM8) (by decide) (by rw [h1]; rfl) (by rw [e]; rfl)
      ·have h9 := (uh LO8).lr
       rw [h1] at h9
       rw [h9.cellAt i (by omega)]
       exact lcells_get _ _ _ _ _ hi
    obtain ⟨gl, hg1, hg2, hg3⟩ := hgl
    exact over_ok X pl l.length cl gl g (fun i => (l[i]?.getD default).bs.length + 64) c (by omega) hg1 hg2 (fun i hi => ⟨hg3 i hi, by rw [hX]; exact .inl ⟨i, hi, rfl⟩, by have h9 := Live.of_own ((uh LO8).ls i hi); rw [Nat.mul_one] at h9; exact h9, by
     obtain ⟨x, hx⟩ : ∃ x, l[i]? = some x := ⟨_, List.getElem?_eq_getElem hi⟩
     have h9 := uh HBL x (List.mem_of_getElem? hx)
     rw [hx]
     show x.bs.length + 64 <= _
     omega⟩) (some ⟨gr, 0, none⟩) (l.length + 64) cr gr (by omega) (fun _ => ⟨rfl, by rw [hX]; exact .inr rfl⟩) (Live.of_own (uh RM8))
   have HOC := hide hOv
   clear hb8 hkf l2 hOv hX
   go_wp2_with fail
   refine (uh HOC).mono ?_
   rintro r w9 ⟨rfl, hov⟩
   have HOV := hide hov
   have P10 := (((uh HF w8 ((uh BX2).trans ((uh C8).mono (uh BX2).size))).apart hov.sep (fun q hq => uh HFR q (by have h1 := (uh BX2).size; have h2 := (hXl q hq).1; omega))).mono (N' := N + 64) (by omega))
   have x0 : w9.cell? ⟨w.heap.size, 0, none⟩ = some (.int .i64 (j : Int)) := (World.cell?_of_block (a := ⟨w.heap.size, 0, none⟩) (hov.block w.heap.size (fun h => by have := (hXl _ h).1; omega))).trans (keep1 (uh C8) (by omega) (uh O0))
   have yp := P10.p j hj
   have yd := P10.d j hj
   have fz := P10.kb.fz
   have HP := hide (P10.put hj none (fun t ht => by cases ht))
   clear hov P10 HOC
   go_wp2_with fail
   refine wp_region_last (n := 7) (S := fun W => W.cell? ⟨w.heap.size, 0, none⟩ = some (.int .i64 (j : Int))) (by kernel_rfl) (by first | (exact x0)) (fun hHeld => ?_)
   refine tkW 0 ?_; refine tkW 1 ?_; refine tkS 2 ?_; refine tkW 3 ?_; refine tkW 4 ?_; refine tkW 5 ?_; refine tkW 6 ?_
   refine wpAnyL_end (i := 7) (by kernel_rfl) rfl (by kernel_rfl) (by kernel_rfl) (fun KK hK => ?_)
   go_simp
   refine hK.out _ _ ?_
   clear hK KK
   go_wp2_with fail
   refine wp_region_last (n := 7) (S := fun W => W.cell? ⟨w.heap.size, 0, none⟩ = some (.int .i64 (j : Int))) (by kernel_rfl) (by first | (exact (World.cell?_setCell_other w9 _ _ _ (by intro h'; injection h' with h' _ _; omega)).trans x0)) (fun hHeld => ?_)
   refine tkW 0 ?_; refine tkW 1 ?_; refine tkS 2 ?_; refine tkW 3 ?_; refine tkW 4 ?_; refine tkW 5 ?_; refine tkW 6 ?_
   refine wpAnyL_end (i := 7) (by kernel_rfl) rfl (by kernel_rfl) (by kernel_rfl) (fun KK hK => ?_)
   go_simp
   refine hK.out _ _ ?_
   clear hK KK
   go_wp2_with fail
   go_ret
   exact ⟨rfl, _, _, (uh HP).below (Below.refl _ _).drew.drew⟩
theorem made_fromY {w0 w : World} {y N j : Nat} {T : Nat -> Option Tw} {U : Nat -> Prop} (h : PlayIs w0 w y N T U) (hj : j < 3) (hN : N < 800000) (o : OpV) (hd : o.d = (j : Int)) (hk : o.kd = 2) (ho : OpIn w0 o) (hv : validV o.cp o.fs o.fu o.dn = true) :
  Calls Tryz.prog 15 #[.pointer (some ⟨y, 0, none⟩), o.val] w fun e w' => e = .returned (.bool true) /\ ∃ T' U', PlayIs w0 w' y (N + 64) T' U' := by
 have hyl := h.kb.lt
 have hyw : w0.heap.size <= y := h.yl
 obtain ⟨w1, hw1⟩ : ∃ w1, w1 = w.alloc (.cells #[.int .i64 (j : Int), .int .i64 2, .string o.nm, .string o.to, .slice o.pu o.b2.length o.cu, .int .i64 o.pos, .int .i64 o.n, .slice o.pk o.ks.length o.ck, .int .i64 o.cp, .slice o.pf o.fs.length o.cf, .int .i64 o.fu, .bool o.dn] 61) := ⟨_, rfl⟩
 have B1 : Hid (Below w.heap.size w w1) := by rw [hw1]; exact bal (Below.refl _ _) _
 have hz1 : w1.heap.size = w.heap.size + 1 := by rw [hw1]; simp
 have e0 : w1.cell? ⟨w.heap.size, 0, none⟩ = some (.int .i64 (j : Int)) := by rw [hw1]; simp
 have e1 : w1.cell? ⟨w.heap.size, 1, none⟩ = some (.int .i64 2) := by rw [hw1]; simp
 have b8 : w1.cell? ⟨w.heap.size, 8, none⟩ = some (.int .i64 o.cp) := by rw [hw1]; simp
 have b9 : w1.cell? ⟨w.heap.size, 9, none⟩ = some (.slice o.pf o.fs.length o.cf) := by rw [hw1]; simp
 have b10 : w1.cell? ⟨w.heap.size, 10, none⟩ = some (.int .i64 o.fu) := by rw [hw1]; simp
 have b11 : w1.cell? ⟨w.heap.size, 11, none⟩ = some (.bool o.dn) := by rw [hw1]; simp
 have HF : Hid (∀ W, Below w.heap.size w W -> PlayIs w0 W y N T U) := fun W hb => h.below hb
 have HFR : Hid (∀ q, w.heap.size <= q -> w0.heap.size <= q /\ q ≠ y /\ ¬ U q /\ ∀ i, i < 3 -> ∀ t, T i = some t -> ¬ t.fp q) := fun q hq => ⟨Nat.le_trans h.bl.size hq, by omega, fun e => by have := (h.kb.ul q e).2.2; omega, fun i hi t ht e => by have := (h.tw i hi t ht).lt e; omega⟩
 have HPW : Hid (Kt.Pw w) := h.kb.tab
 have HFS : Hid (∀ W, Below w.heap.size w W -> FilesIn W o.pf o.fs) := fun W hb => (ho.below (h.bl.trans (hb.mono h.bl.size))).fs
 have hlm := ho.fl
 have HBL := hide ho.fb
 have HNM := hide ho.fn
 have HV := hide hv
 obtain ⟨CP, hCP⟩ : ∃ CP, CP = o.cp := ⟨_, rfl⟩
 obtain ⟨FU, hFU⟩ : ∃ FU, FU = o.fu := ⟨_, rfl⟩
 obtain ⟨DN, hDN⟩ : ∃ DN, DN = o.dn := ⟨_, rfl⟩
 obtain ⟨l, hl⟩ : ∃ l, l = o.fs := ⟨_, rfl⟩
 obtain ⟨pf, hpf⟩ : ∃ pf, pf = o.pf := ⟨_, rfl⟩
 obtain ⟨cf, hcf⟩ : ∃ cf, cf = o.cf := ⟨_, rfl⟩
 rw [<- hl] at hlm HBL HNM b9
 rw [<- hl, <- hCP, <- hFU, <- hDN] at HV
 rw [<- hl, <- hpf] at HFS
 rw [<- hCP] at b8
 rw [<- hpf, <- hcf] at b9
 rw [<- hFU] at b10
 rw [<- hDN] at b11
 rw [<- hl, <- hpf, <- hcf, <- hCP, <- hFU, <- hDN] at hw1
 have hjI : (0 : Int) <= (j : Int) := by omega
 have hjI3 : (j : Int) < 3 := by omega
 unfold OpV.val
 rw [hd, hk]
 rw [<- hl, <- hpf, <- hcf, <- hCP, <- hFU, <- hDN]
 obtain ⟨x2, hx2⟩ : ∃ x2, x2 = w1.alloc (.cells #[.int .i64 CP, .slice pf l.length cf, .int .i64 FU, .bool DN] 59) := ⟨_, rfl⟩
 have A2 : Hid (Below w1.heap.size w1 x2) := by rw [hx2]; exact bal (Below.refl _ _) _
 have zx2 : x2.heap.size = w1.heap.size + 1 := by rw [hx2]; simp
 have hs2 : w.heap.size + 1 < x2.heap.size := by omega
 have SB0 : Hid (x2.cell? ⟨w.heap.size + 1, 0, none⟩ = some (.int .i64 CP)) := by show _ = _; rw [hx2, <- hz1]; go_simp
 have SB1 : Hid (x2.cell? ⟨w.heap.size + 1, 1, none⟩ = some (.slice pf l.length cf)) := by show _ = _; rw [hx2, <- hz1]; go_simp
 have SB2 : Hid (x2.cell? ⟨w.heap.size + 1, 2, none⟩ = some (.int .i64 FU)) := by show _ = _; rw [hx2, <- hz1]; go_simp
 have SB3 : Hid (x2.cell? ⟨w.heap.size + 1, 3, none⟩ = some (.bool DN)) := by show _ = _; rw [hx2, <- hz1]; go_simp
 have BX2 : Hid (Below w.heap.size w x2) := (uh B1).trans ((uh A2).mono (uh B1).size)
 have O0 := hide (keep1 (uh A2) (by show w.heap.size < w1.heap.size; omega) e0)
 have FIN := hide (uh HFS x2 (uh BX2))
 have PW := hide ((uh HPW).below (uh BX2))
 clear h hd hk ho hv hl hpf hcf hCP hFU hDN
 go_enter Tryz.func15, Tryz.ntmps15
 go_wp2_with fail
 rw [<- hw1]
 clear hw1
 go_wp2_with fail
 rw [<- hx2]
 clear hx2 e0 e1 b8 b9 b10 b11
 refine (loosened_ok CP FU DN pf cf l (uh FIN) hlm (uh HBL) (uh PW)).mono ?_
 rintro r w3 ⟨g, c, lv, fv, gr, cr, rfl, hLo, hroom, hb3⟩
 obtain ⟨pl, cl, hlv⟩ := row_form hLo.lr
 subst hlv
 have LO3 := hide hLo
 have RM3 := hide hroom
 have hgr := hroom.lt gr rfl
 have hz3 : x2.heap.size <= w3.heap.size := hb3.size
 have C3 : Hid (Below x2.heap.size x2 w3) := hb3
 obtain ⟨x3, hx3⟩ : ∃ x3, x3 = w3.alloc (.cells #[.int .i64 CP, .slice (some ⟨gr, 0, none⟩) l.length cr, .int .i64 FU, .bool DN] 59) := ⟨_, rfl⟩
 have A3 : Hid (Below w3.heap.size w3 x3) := by rw [hx3]; exact bal (Below.refl _ _) _
 have zx3 : x3.heap.size = w3.heap.size + 1 := by rw [hx3]; simp
 have i0 : x3.cell? ⟨w3.heap.size, 0, none⟩ = some (.int .i64 CP) := by rw [hx3]; simp
 have i1 : x3.cell? ⟨w3.heap.size, 1, none⟩ = some (.slice (some ⟨gr, 0, none⟩) l.length cr) := by rw [hx3]; simp
 have i2 : x3.cell? ⟨w3.heap.size, 2, none⟩ = some (.int .i64 FU) := by rw [hx3]; simp
 have i3 : x3.cell? ⟨w3.heap.size, 3, none⟩ = some (.bool DN) := by rw [hx3]; simp
 have Cx3 : Hid (Below x2.heap.size x2 x3) := (uh C3).trans ((uh A3).mono (uh C3).size)
 have FAP := hide ((lo_files hLo hroom).below (uh A3))
 clear hLo hroom hb3
 go_wp2_with fail
 rw [<- hx3]
 clear hx3
 refine (from_yes CP FU DN (some ⟨gr, 0, none⟩) cr l (uh FAP) (uh HNM) (fun f hf => by have := uh HBL f hf; omega) (uh HV)).mono ?_
 rintro r w4 ⟨d, rfl, SD, hd4, hsd, hb4⟩
 have D4 := hide hd4
 have HSD := hide hsd
 clear hd4 hsd
 have C34 : Hid (Below x3.heap.size x3 w4) := hb4
 have C4 : Hid (Below x2.heap.size x2 w4) := (uh Cx3).trans (hb4.mono (uh Cx3).size)
 have hz4 : x3.heap.size <= w4.heap.size := hb4.size
 have FI4 := hide ((uh FIN).below (uh C4))
 have s0 := keep1 (uh C4) hs2 (uh SB0)
 have s1 := keep1 (uh C4) hs2 (uh SB1)
 have s2 := keep1 (uh C4) hs2 (uh SB2)
 have s3 := keep1 (uh C4) hs2 (uh SB3)
 clear hb4
 go_wp2_with fail
 refine (rfrom_yes CP FU DN pf cf l (uh FI4) (by omega) (uh HNM) (fun f hf => by have := uh HBL f hf; omega) (uh HV)).mono ?_
 rintro r w5 ⟨d', rfl, VD, hd5, hvd, hb5⟩
 have D5 := hide hd5
 have HVD := hide hvd
 clear hd5 hvd
 have C45 : Hid (Below w4.heap.size w4 w5) := hb5
 have C5 : Hid (Below x2.heap.size x2 w5) := (uh C4).trans (hb5.mono (uh C4).size)
 have C35 : Hid (Below x3.heap.size x3 w5) := (uh C34).trans (hb5.mono (uh C34).size)
 have hz5 : w4.heap.size <= w5.heap.size := hb5.size
 have s0 := keep1 hb5 (by omega) s0
 have s1 := keep1 hb5 (by omega) s1
 have s2 := keep1 hb5 (by omega) s2
 have s3 := keep1 hb5 (by omega) s3
 have i0 := keep1 (uh C35) (by omega) i0
 have i1 := keep1 (uh C35) (by omega) i1
 have i2 := keep1 (uh C35) (by omega) i2
 have i3 := keep1 (uh C35) (by omega) i3
 have hsm := hide (same_in (w := w5) CP FU DN (some ⟨gr, 0, none⟩) pf cr cf l ((uh FAP).in.below (uh C35)) ((uh FIN).below (uh C5)) hlm)
 clear hb5
 go_wp2_with fail
 refine (num_any _ _).mono ?_
 rintro r wz ⟨rfl, hw⟩
 rw [hw]
 clear hw wz
 go_wp2_with fail
 refine (num_any _ _).mono ?_
 rintro r wz ⟨rfl, hw⟩
 rw [hw]
 clear hw wz
 go_wp2_with fail
 refine (uh hsm).mono ?_
 rintro r w6 ⟨rfl, hb6⟩
 have C56 : Hid (Below w5.heap.size w5 w6) := hb6
 have C6 : Hid (Below x2.heap.size x2 w6) := (uh C5).trans (hb6.mono (uh C5).size)
 have hz6 : w5.heap.size <= w6.heap.size := hb6.size
 have C36 : Hid (Below w3.heap.size w3 w6) := ((uh A3).trans ((uh C35).mono (uh A3).size)).trans (hb6.mono (by omega))
 clear hb6 hsm s0 s1 s2 s3 i0 i1 i2 i3
 go_wp2_with fail
 go_loopw [17, 18] (fun ok u wr => ∃ i : Nat, i <= l.length /\ ok = .bool true /\ u = .int .i64 (i : Int) /\ Below w6.heap.size w6 wr) (fun _ u _ => l.length - (intOf u).toNat)
 case atStart => exact ⟨0, Nat.zero_le _, rfl, rfl, Below.refl _ _⟩
 case round =>
  obtain ⟨i, hi, rfl, rfl, hbr⟩ := hrel
  have HBR := hide hbr
  have CR2 : Hid (Below x2.heap.size x2 wr) := (uh C6).trans (hbr.mono (uh C6).size)
  have CR3 : Hid (Below w3.heap.size w3 wr) := (uh C36).trans (hbr.mono (uh C36).size)
  by_cases hlt : i < l.length
  ·have hne : l ≠ [] := fun e => by rw [e] at hlt; simp at hlt
   obtain ⟨x, hx⟩ : ∃ x, l[i]? = some x := ⟨_, List.getElem?_eq_getElem hlt⟩
   obtain ⟨b, off, hpf, hcell⟩ := uh FIN hne
   obtain ⟨p, cx, _, f1, _, hby⟩ := hcell i x hx
   have hxd : l[i]?.getD default = x := by rw [hx]; rfl
   have hgl : ∃ gl, pl = some ⟨gl, 0, none⟩ := by
    rcases (uh LO3).lr.2 with ⟨_, h2⟩ | ⟨gl, cap, cur, h1, _⟩
    ·omega
    ·injection h1 with h1 _ _; exact ⟨gl, h1⟩
   obtain ⟨gl, hpl⟩ := hgl
   subst hpl hpf
   have l1 : wr.cell? ⟨gl, i, none⟩ = some (.slice (some ⟨g i, 0, none⟩) (x.bs.length + 64) (c i)) := by
    rw [World.cell?_of_block ((uh CR3).block gl ((uh LO3).lr.lt gl rfl).2), (uh LO3).lr.cellAt i (by omega), lcells_get _ _ _ _ _ hlt, hxd]
   have l2 : wr.cell? ⟨w.heap.size + 1, 1, none⟩ = some (.slice (some ⟨b, off, none⟩) l.length cf) := keep1 (uh CR2) hs2 (uh SB1)
   have l3 : wr.cell? ⟨b, off + i * 3 + 1, none⟩ = some (.slice p x.bs.length cx) := keep1 (uh CR2) (World.block_lt_of_cell? x2 _ f1) f1
   have hls := (uh LO3).ls i hlt
   rw [hxd] at hls
   have hkp := hide (Kp.kept_in (w := wr.drew) (hby.below (uh CR2).drew) (uh HBL x (List.mem_of_getElem? hx)) (g i) (c i) (fun k hk => by
    have h9 := (row_far hls (fun q hq => (uh CR3).block q (hls.lt q hq).2)).cellAt k (by omega)
    rw [Kp.bcells_get _ _ _ hk] at h9
    exact h9))
   have hI : (i : Int) < (l.length : Int) := by omega
   have hI0 : (0 : Int) <= (i : Int) := by omega
   clear hbr hne hx hcell f1 hby hxd hls
   go_wp2_with fail
   refine wp_region_last (n := 15) (S := fun W => W.cell? ⟨gl, i, none⟩ = some (.slice (some ⟨g i, 0, none⟩) (x.bs.length + 64) (c i)) /\ W.cell? ⟨w.heap.size + 1, 1, none⟩ = some (.slice (some ⟨b, off, none⟩) l.length cf) /\ W.cell? ⟨b, off + i * 3 + 1, none⟩ = some (.slice p x.bs.length cx)) (by kernel_rfl) (by first | (exact ⟨l1, l2, l3⟩)) (fun hHeld => ?_)
   refine tkW 0 ?_; refine tkW 1 ?_; refine tkW 2 ?_; refine tkW 3 ?_; refine tkW 4 ?_; refine tkN 5 ?_; refine tkW 6 ?_; refine tkN 7 ?_; refine tkW 8 ?_; refine tkW 9 ?_; refine tkW 10 ?_
   refine tkN 11 ?_
   refine wpAnyL_one (i := 12) (by kernel_rfl) rfl (fun KK hK => ?_)
   go_simp
   go_at_call 95
   refine (uh hkp).mono ?_
   rintro r w7 ⟨rfl, m, hw7⟩
   have B7 : Hid (Below wr.heap.size wr w7) := by rw [hw7]; exact ⟨rfl, rfl, rfl, Nat.le_refl _, fun _ _ => rfl⟩
   have l1 : w7.cell? ⟨gl, i, none⟩ = some (.slice (some ⟨g i, 0, none⟩) (x.bs.length + 64) (c i)) := by rw [hw7]; exact l1
   have l2 : w7.cell? ⟨w.heap.size + 1, 1, none⟩ = some (.slice (some ⟨b, off, none⟩) l.length cf) := by rw [hw7]; exact l2
   have l3 : w7.cell? ⟨b, off + i * 3 + 1, none⟩ = some (.slice p x.bs.length cx) := by rw [hw7]; exact l3
   clear hw7
   refine hK.out _ _ (by first | (exact ⟨l1, l2, l3⟩)) (fun hHeld => ?_)
   clear hK KK
   refine tkW 13 ?_; refine tkW 14 ?_
   refine wpAnyL_done (by kernel_rfl) ?_
   go_wp2_with fail
   exact ⟨⟨i + 1, by omega, rfl, by go_num, (uh HBR).trans ((uh B7).mono (uh HBR).size)⟩, by simp [intOf]; omega⟩
  ·have hI : ¬ (i : Int) < (l.length : Int) := by omega
   have hkf := hide (keptf_in (W := wr) (ca := cf) ((uh FIN).below (uh CR2)) (row_far (uh RM3) (fun q hq => (uh CR3).block q ((uh RM3).lt q hq).2)) ((uh PW).below (uh CR2)) hlm)
   have l2 : wr.cell? ⟨w.heap.size + 1, 1, none⟩ = some (.slice pf l.length cf) := keep1 (uh CR2) hs2 (uh SB1)
   have hz7 : w6.heap.size <= wr.heap.size := hbr.size
   clear hbr
   go_wp2_with fail
   refine (uh hkf).mono ?_
   rintro r w8 ⟨rfl, hb8⟩
   have C8 : Hid (Below x2.heap.size x2 w8) := (uh CR2).trans (hb8.mono (uh CR2).size)
   have C38 : Hid (Below w3.heap.size w3 w8) := (uh CR3).trans (hb8.mono (uh CR3).size)
   have C59 : Hid (Below w5.heap.size w5 w8) := ((uh C56).trans ((uh HBR).mono (uh C56).size)).trans (hb8.mono (by omega))
   have hz8 : wr.heap.size <= w8.heap.size := hb8.size
   obtain ⟨X, hX⟩ : ∃ X : Nat -> Prop, X = fun q => (∃ i, i < l.length /\ q = g i) \/ q = gr := ⟨_, rfl⟩
   have hXl : ∀ q, X q -> x2.heap.size <= q /\ q < w3.heap.size := fun q hq => by
    rw [hX] at hq
    rcases hq with ⟨i, hi, e⟩ | e
    ·rw [e]; exact (((uh LO3).ls i hi).lt (g i) rfl)
    ·rw [e]; exact hgr
   have LO8 := hide ((uh LO3).below (uh C38))
   have RM8 := hide (row_far (uh RM3) (fun q hq => (uh C38).block q ((uh RM3).lt q hq).2))
   have hOv : Calls Tryz.prog 97 #[.slice pl l.length cl, .slice (some ⟨gr, 0, none⟩) (l.length + 64) cr] w8 fun e w' => e = .returned (.tuple #[]) /\ Ov w8 w' X := by
    have hgl : ∃ gl, (0 < l.length -> pl = some ⟨gl, 0, none⟩) /\ ¬ X gl /\ ∀ i, i < l.length -> w8.cell? ⟨gl, i, none⟩ = some (.slice (some ⟨g i, 0, none⟩) ((l[i]?.getD default).bs.length + 64) (c i)) := by
     rcases (uh LO8).lr.2 with ⟨_, h2⟩ | ⟨gl, cap, cur, h1, _⟩
     ·exact ⟨w8.heap.size, fun h => by omega, fun h => by have := hXl _ h; omega, fun i hi => by omega⟩
     ·injection h1 with h1 _ _
      refine ⟨gl, fun _ => h1, fun h => ?_, fun i hi => ?_⟩
      ·rw [hX] at h
       rcases h with ⟨i, hi, e⟩ | e
       ·exact rows_apart (uh LO8).lr ((uh LO8).ls i hi) (by decide) (by rw [h1]; rfl) (by rw [e]; rfl)
       ·exact rows_apart (uh LO8).lr (uh RM8) (by decide) (by rw [h1]; rfl) (by rw [e]; rfl)
      ·have h9 := (uh LO8).lr
       rw [h1] at h9
       rw [h9.cellAt i (by omega)]
       exact lcells_get _ _ _ _ _ hi
    obtain ⟨gl, hg1, hg2, hg3⟩ := hgl
    exact over_ok X pl l.length cl gl g (fun i => (l[i]?.getD default).bs.length + 64) c (by omega) hg1 hg2 (fun i hi => ⟨hg3 i hi, by rw [hX]; exact .inl ⟨i, hi, rfl⟩, by have h9 := Live.of_own ((uh LO8).ls i hi); rw [Nat.mul_one] at h9; exact h9, by
     obtain ⟨x, hx⟩ : ∃ x, l[i]? = some x := ⟨_, List.getElem?_eq_getElem hi⟩
     have h9 := uh HBL x (List.mem_of_getElem? hx)
     rw [hx]
     show x.bs.length + 64 <= _
     omega⟩) (some ⟨gr, 0, none⟩) (l.length + 64) cr gr (by omega) (fun _ => ⟨rfl, by rw [hX]; exact .inr rfl⟩) (Live.of_own (uh RM8))
   have HOC := hide hOv
   clear hb8 hkf l2 hOv hX
   go_wp2_with fail
   refine (uh HOC).mono ?_
   rintro r w9 ⟨rfl, hov⟩
   have HOV := hide hov
   have P10 := (((uh HF w8 ((uh BX2).trans ((uh C8).mono (uh BX2).size))).apart hov.sep (fun q hq => uh HFR q (by have h1 := (uh BX2).size; have h2 := (hXl q hq).1; omega))).mono (N' := N + 64) (by omega))
   have x0 : w9.cell? ⟨w.heap.size, 0, none⟩ = some (.int .i64 (j : Int)) := (World.cell?_of_block (a := ⟨w.heap.size, 0, none⟩) (hov.block w.heap.size (fun h => by have := (hXl _ h).1; omega))).trans (keep1 (uh C8) (by omega) (uh O0))
   have yp := P10.p j hj
   have yd := P10.d j hj
   have fz := P10.kb.fz
   have HP := hide (P10.put hj (some ⟨d, d', ⟨CP, l.map FV.fl, FU, DN⟩, SD, VD⟩) (fun t ht => by
    injection ht with ht
    subst ht
    have hS9 : ∀ q, SD q -> ¬ X q := fun q hq hX => by have h1 := uh HSD q hq; have h2 := hXl q hX; omega
    have hV9 : ∀ q, VD q -> ¬ X q := fun q hq hX => by have h1 := uh HVD q hq; have h2 := hXl q hX; omega
    have hD9 := ((((uh D4).below (uh C45)).below (uh C59)).sep (uh HOV).sep hS9).mono (N' := N + 64) (by omega)
    have hR9 := ((uh D5).below (uh C59)).sep (uh HOV).sep hV9
    refine ⟨⟨hD9, hR9, (valid_inv (uh HV)).1, fun q h1 h2 => ?_⟩, fun q hq => ?_⟩
    ·have h3 := uh HVD q h2
     have h4 := (uh D4).sl q h1
     omega
    ·rcases hq with hq | hq
     ·exact uh HFR q (by have := uh HSD q hq; omega)
     ·exact uh HFR q (by have := uh HVD q hq; omega)))
   clear hov P10 HOC
   go_wp2_with fail
   refine wp_region_last (n := 7) (S := fun W => W.cell? ⟨w.heap.size, 0, none⟩ = some (.int .i64 (j : Int))) (by kernel_rfl) (by first | (exact x0)) (fun hHeld => ?_)
   refine tkW 0 ?_; refine tkW 1 ?_; refine tkS 2 ?_; refine tkW 3 ?_; refine tkW 4 ?_; refine tkW 5 ?_; refine tkW 6 ?_
   refine wpAnyL_end (i := 7) (by kernel_rfl) rfl (by kernel_rfl) (by kernel_rfl) (fun KK hK => ?_)
   go_simp
   refine hK.out _ _ ?_
   clear hK KK
   go_wp2_with fail
   refine wp_region_last (n := 7) (S := fun W => W.cell? ⟨w.heap.size, 0, none⟩ = some (.int .i64 (j : Int))) (by kernel_rfl) (by first | (exact (World.cell?_setCell_other w9 _ _ _ (by intro h'; injection h' with h' _ _; omega)).trans x0)) (fun hHeld => ?_)
   refine tkW 0 ?_; refine tkW 1 ?_; refine tkS 2 ?_; refine tkW 3 ?_; refine tkW 4 ?_; refine tkW 5 ?_; refine tkW 6 ?_
   refine wpAnyL_end (i := 7) (by kernel_rfl) rfl (by kernel_rfl) (by kernel_rfl) (fun KK hK => ?_)
   go_simp
   refine hK.out _ _ ?_
   clear hK KK
   go_wp2_with fail
   go_ret
   exact ⟨rfl, _, _, (uh HP).below (Below.refl _ _).drew.drew⟩
def readK (s : ByteArray) (a n : Int) (K : Dk) : List UInt8 × Int :=
 if K.down = true then ([], 34) else if erF s K ≠ 0 then ([], erF s K) else match getF s.data.toList K.A with
  | none => ([], 31)
  | some x => if a < 0 \/ n < 0 \/ (x.bs.length : Int) < a \/ (x.bs.length : Int) - a < n then ([], 1) else ((x.bs.drop a.toNat).take n.toNat, 0)
def ReadOut (w : World) (r : List UInt8 × Int) (e : Ending) (w' : World) : Prop := (∃ p c, e = .returned (.tuple #[.slice p r.1.length c, .int .i64 r.2]) /\ w'.ownsRow w.heap.size 5 1 (.slice p r.1.length c) r.1.length (bcs r.1)) /\ Below w.heap.size w w'
theorem read_out_nil {w w' : World} {x : Int} {e : Ending} (he : e = .returned (.tuple #[.slice none 0 0, .int .i64 x])) (hb : Below w.heap.size w w') : ReadOut w ([], x) e w' := ⟨⟨none, 0, he, World.ownsRow_nil _ _ _ _⟩, hb⟩
theorem len_le {K : Dk} (hI : Inv K) {k : List UInt8} {x : Fl} (hx : getF k K.A = some x) : x.bs.length <= 1048576 := by
 have h1 := tot_del_some hI.ord hx
 have h2 := hI.tot
 have h3 := hI.cap1
 omega
theorem read_any {w : World} {d N : Nat} {K : Dk} {S : Nat -> Prop} (h : DiskOK w d N K S) (hI : Inv K) (s : ByteArray) (hs : s.size <= maxLen) (a n : Int) (ha : a <= 9223372036854775807) :
  Calls Tryz.prog 44 #[.pointer (some ⟨d, 0, none⟩), .string s, .int .i64 a, .int .i64 n] w fun e w' => ReadOut w (readK s a n K) e w' := by
 obtain ⟨mo, m, es, hD⟩ := h
 unfold readK
 by_cases hdn : K.down = true
 ·rw [if_pos hdn]
  refine (read_er hD s hs (by unfold sizeK; rw [if_pos hdn]; decide) a n).mono ?_
  rintro e w' ⟨he, hb⟩
  refine read_out_nil ?_ hb
  rw [he]
  unfold sizeK
  rw [if_pos hdn]
 ·have hdf : K.down = false := by simpa using hdn
  rw [if_neg hdn]
  by_cases he : erF s K = 0
  ·rw [if_neg (by rw [he]; decide)]
   obtain ⟨hn, x, hx⟩ := erF_zero he
   rw [hx]
   have hxl := len_le hI hx
   simp only
   by_cases hb : a < 0 \/ n < 0 \/ (x.bs.length : Int) < a \/ (x.bs.length : Int) - a < n
   ·rw [if_pos hb]
    refine (read_bad hD s hs hdf hn hx hxl a n ha hb).mono ?_
    rintro e w' ⟨he, hb⟩
    exact read_out_nil he hb
   ·rw [if_neg hb]
    have e1 : ((a.toNat : Nat) : Int) = a := by omega
    have e2 : ((n.toNat : Nat) : Int) = n := by omega
    have h3 := read_in hD s hs hdf hn hx hxl a.toNat n.toNat (by omega)
    rw [e1, e2] at h3
    refine h3.mono ?_
    rintro e w' ⟨⟨p, c, he, hr⟩, hb'⟩
    have hl : ((x.bs.drop a.toNat).take n.toNat).length = n.toNat := by rw [List.length_take, List.length_drop]; omega
    refine ⟨⟨p, c, ?_, ?_⟩, hb'⟩
    ·rw [hl]; exact he
    ·rw [hl]; exact hr
  ·rw [if_pos he]
   have hz : (sizeK s K).2 = erF s K := by unfold sizeK; rw [if_neg hdn]
   refine (read_er hD s hs (by rw [hz]; exact he) a n).mono ?_
   rintro e w' ⟨he, hb⟩
   rw [hz] at he
   exact read_out_nil he hb
theorem rread_any {w : World} {r : Nat} {K : Dk} {V : Nat -> Prop} (h : RefOK w r K V) (hI : Inv K) (s : ByteArray) (hs : s.size <= 9223372036854775806) (a n : Int) :
  Calls Tryz.prog 111 #[.pointer (some ⟨r, 0, none⟩), .string s, .int .i64 a, .int .i64 n] w fun e w' => ReadOut w (readK s a n K) e w' := by
 unfold readK
 by_cases hdn : K.down = true
 ·rw [if_pos hdn]
  refine (rread_down h hdn s a n).mono ?_
  rintro e w' ⟨he, hb⟩
  rw [hb]
  exact read_out_nil he (Below.refl _ _)
 ·have hdf : K.down = false := by simpa using hdn
  rw [if_neg hdn]
  by_cases he : erF s K = 0
  ·rw [if_neg (by rw [he]; decide)]
   obtain ⟨hn, x, hx⟩ := erF_zero he
   rw [hx]
   have hxl := len_le hI hx
   simp only
   by_cases hb : a < 0 \/ n < 0 \/ (x.bs.length : Int) < a \/ (x.bs.length : Int) - a < n
   ·rw [if_pos hb]
    refine (rread_bad h hI.many hdf s hs he hx hxl a n hb).mono ?_
    rintro e w' ⟨he, hb⟩
    rw [hb]
    exact read_out_nil he (Below.refl _ _)
   ·rw [if_neg hb]
    have e1 : ((a.toNat : Nat) : Int) = a := by omega
    have e2 : ((n.toNat : Nat) : Int) = n := by omega
    have h3 := rread_in h hI.many hdf s hs he hx hxl a.toNat n.toNat (by omega)
    rw [e1, e2] at h3
    refine h3.mono ?_
    rintro e w' ⟨⟨p, c, he, hr⟩, hb'⟩
    have hl : ((x.bs.drop a.toNat).take n.toNat).length = n.toNat := by rw [List.length_take, List.length_drop]; omega
    refine ⟨⟨p, c, ?_, ?_⟩, hb'⟩
    ·rw [hl]; exact he
    ·rw [hl]; exact hr
  ·rw [if_pos he]
   refine (rread_er h hI.many hdf s hs he a n).mono ?_
   rintro e w' ⟨he, hb⟩
   rw [hb]
   exact read_out_nil he (Below.refl _ _)
theorem readK_len {s : ByteArray} {a n : Int} {K : Dk} (hI : Inv K) : (readK s a n K).1.length <= 1048576 := by
 unfold readK
 split
 ·simp
 ·split
  ·simp
  ·split
   ·simp
   ·rename_i x hx
    have := len_le hI hx
    split
    ·simp
    ·simp only [List.length_take, List.length_drop]; omega
def listK (K : Dk) : List (List UInt8) × Int := if K.down = true then ([], 34) else (K.A.map (·.1), 0)
def ListOut (w : World) (r : List (List UInt8) × Int) (e : Ending) (w' : World) : Prop := (∃ v, e = .returned (.tuple #[v, .int .i64 r.2]) /\ w'.ownsRow w.heap.size 9 1 v r.1.length (r.1.map encStr)) /\ Below w.heap.size w w'
theorem list_down {w : World} {d N n : Nat} {K : Dk} {S : Nat -> Prop} {mo : Option Nat} {es : List (Lit × DataW Value)} (h : DiskIs w d N K S mo n es) (hdn : K.down = true) :
  Calls Tryz.prog 45 #[.pointer (some ⟨d, 0, none⟩)] w fun e w' => e = .returned (.tuple #[.slice none 0 0, .int .i64 34]) /\ w' = w := by
 have h3 := h.at'.c3
 rw [hdn] at h3
 clear h
 go_enter Tryz.func45, Tryz.ntmps45
 go_wp2_with fail
 go_ret2
 exact ⟨rfl, rfl⟩
theorem rlist_down {w : World} {r : Nat} {K : Dk} {V : Nat -> Prop} (h : RefOK w r K V) (hdn : K.down = true) :
  Calls Tryz.prog 116 #[.pointer (some ⟨r, 0, none⟩)] w fun e w' => e = .returned (.tuple #[.slice none 0 0, .int .i64 34]) /\ w' = w := by
 obtain ⟨V0, v, h⟩ := h
 have h3 := h.c3
 rw [hdn] at h3
 clear h
 go_enter Tryz.func116, Tryz.ntmps116
 go_wp2_with fail
 go_ret2
 exact ⟨rfl, rfl⟩
theorem list_any {w : World} {d N : Nat} {K : Dk} {S : Nat -> Prop} (h : DiskOK w d N K S) (hI : Inv K) : Calls Tryz.prog 45 #[.pointer (some ⟨d, 0, none⟩)] w fun e w' => ListOut w (listK K) e w' := by
 obtain ⟨mo, m, es, hD⟩ := h
 unfold listK
 by_cases hdn : K.down = true
 ·rw [if_pos hdn]
  refine (list_down hD hdn).mono ?_
  rintro e w' ⟨he, hw⟩
  rw [hw]
  exact ⟨⟨_, he, World.ownsRow_nil _ _ _ _⟩, Below.refl _ _⟩
 ·rw [if_neg hdn]
  refine (list_ok hD hI.ord hI.many (by simpa using hdn)).mono ?_
  rintro e w' ⟨v, he, hr, hb⟩
  refine ⟨⟨v, he, ?_⟩, hb⟩
  simp only [List.length_map]
  exact hr
theorem rlist_any {w : World} {r : Nat} {K : Dk} {V : Nat -> Prop} (h : RefOK w r K V) (hI : Inv K) : Calls Tryz.prog 116 #[.pointer (some ⟨r, 0, none⟩)] w fun e w' => ListOut w (listK K) e w' := by
 unfold listK
 by_cases hdn : K.down = true
 ·rw [if_pos hdn]
  refine (rlist_down h hdn).mono ?_
  rintro e w' ⟨he, hw⟩
  rw [hw]
  exact ⟨⟨_, he, World.ownsRow_nil _ _ _ _⟩, Below.refl _ _⟩
 ·rw [if_neg hdn]
  refine (rlist_ok h hI.many (by simpa using hdn)).mono ?_
  rintro e w' ⟨v, he, hr, hb⟩
  refine ⟨⟨v, he, ?_⟩, hb⟩
  simp only [List.length_map]
  exact hr
theorem listK_len {K : Dk} (hI : Inv K) : (listK K).1.length <= 64 := by
 unfold listK
 split
 ·simp
 ·simp only [List.length_map]; exact hI.many
theorem sameTexts_zero (pa pb : Option Addr) (ca cb : Nat) (w : World) : Calls Tryz.prog 117 #[.slice pa 0 ca, .slice pb 0 cb] w fun e w' => e = .returned (.bool true) /\ w' = w := by
 go_enter Tryz.func117, Tryz.ntmps117
 go_wp2_with fail
 go_loopw [5] (fun i wr => i = .int .i64 0 /\ wr = w) (fun i _ => 0)
 case atStart => exact ⟨rfl, rfl⟩
 case round =>
  obtain ⟨rfl, rfl⟩ := hrel
  go_wp2_with fail
  go_ret
  exact ⟨rfl, rfl⟩
theorem sameTexts_own {w : World} {b1 b2 : Nat} {va vb : Value} (l : List (List UInt8)) (hl : l.length <= 4096) (ha : w.ownsRow b1 9 1 va l.length (l.map encStr)) (hb : w.ownsRow b2 9 1 vb l.length (l.map encStr)) : Calls Tryz.prog 117 #[va, vb] w fun e w' => e = .returned (.bool true) /\ Below w.heap.size w w' := by
 by_cases h0 : l.length = 0
 ·have e1 : ∀ {b : Nat} {v : Value}, w.ownsRow b 9 1 v l.length (l.map encStr) -> ∃ p c, v = .slice p 0 c := fun h => by
   rcases h.2 with ⟨h1, h2⟩ | ⟨g, c, cur, h1, _⟩
   ·exact ⟨none, 0, h1⟩
   ·exact ⟨_, c, by rw [h1, h0]⟩
  obtain ⟨pa, ca, rfl⟩ := e1 ha
  obtain ⟨pb, cb, rfl⟩ := e1 hb
  refine (sameTexts_zero pa pb ca cb w).mono ?_
  rintro e w' ⟨he, hw⟩
  rw [hw]
  exact ⟨he, Below.refl _ _⟩
 ·rw [enc_cells] at ha hb
  obtain ⟨ga, ca, rfl⟩ := Kt.own_open ha (by omega)
  obtain ⟨gb, cb, rfl⟩ := Kt.own_open hb (by omega)
  refine (Kt.sameTexts_some _ ga gb l.length ca cb hl w (fun k hk => by rw [ha.cellAt k (by omega)]; exact Kt.scells_get _ _ _ hk) (fun k hk => by rw [hb.cellAt k (by omega)]; exact Kt.scells_get _ _ _ hk)).mono ?_
  rintro e w' ⟨he, m, hw⟩
  rw [hw]
  exact ⟨he, ⟨rfl, rfl, rfl, Nat.le_refl _, fun _ _ => rfl⟩⟩
end Go.Proofs.YtpeohbkigkfcgaaGreatDoor
