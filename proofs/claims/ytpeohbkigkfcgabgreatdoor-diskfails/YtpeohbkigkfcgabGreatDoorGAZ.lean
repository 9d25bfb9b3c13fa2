import Derived.Test.YtpeohbkigkfcgabGreatDoorGAW
import Derived.Test.YtpeohbkigkfcgabGreatDoorGAN
import Derived.Test.YtpeohbkigkfcgabGreatDoorGAX
import Derived.Test.YtpeohbkigkfcgabGreatDoorGAY
set_option linter.unusedVariables false
set_option linter.unusedSimpArgs false
set_option maxRecDepth 100000
set_option maxHeartbeats 16000000
namespace Go.Proofs.YtpeohbkigkfcgabGreatDoor
open Go Go.ChangeShapes Go.WideShapes Go.ChangeAt Go.RowKit
attribute [local go_sem] setCell_drewN alloc_drewN
theorem made_againNone {w0 w : World} {y N j : Nat} {T : Nat -> Option Tw} {U : Nat -> Prop} (h : PlayIs w0 w y N T U) (hj : j < 3) (hN : N < 800000) (o : OpV) (hd : o.d = (j : Int)) (hk : o.kd = 16) (ho : OpIn w0 o) (ht : T j = none) :
  Calls Tryz.prog 14 #[.pointer (some ⟨y, 0, none⟩), o.val] w fun e w' => e = .returned (.bool true) /\ ∃ T' U', PlayIs w0 w' y (N + 64) T' U' := by
 have hyl := h.kb.lt
 have hyw : w0.heap.size <= y := h.yl
 obtain ⟨w1, hw1⟩ : ∃ w1, w1 = w.alloc (.cells #[.int .i64 (j : Int), .int .i64 16, .string o.nm, .string o.to, .slice o.pu o.b2.length o.cu, .int .i64 o.pos, .int .i64 o.n, .slice o.pk o.ks.length o.ck, .int .i64 o.cp, .slice o.pf o.fs.length o.cf, .int .i64 o.fu, .bool o.dn] 61) := ⟨_, rfl⟩
 have B1 : Hid (Below w.heap.size w w1) := by rw [hw1]; exact bal (Below.refl _ _) _
 have hz1 : w1.heap.size = w.heap.size + 1 := by rw [hw1]; simp
 have e0 : w1.cell? ⟨w.heap.size, 0, none⟩ = some (.int .i64 (j : Int)) := by rw [hw1]; simp
 have e1 : w1.cell? ⟨w.heap.size, 1, none⟩ = some (.int .i64 16) := by rw [hw1]; simp
 have b8 : w1.cell? ⟨w.heap.size, 8, none⟩ = some (.int .i64 o.cp) := by rw [hw1]; simp
 have b9 : w1.cell? ⟨w.heap.size, 9, none⟩ = some (.slice o.pf o.fs.length o.cf) := by rw [hw1]; simp
 have b10 : w1.cell? ⟨w.heap.size, 10, none⟩ = some (.int .i64 o.fu) := by rw [hw1]; simp
 have b11 : w1.cell? ⟨w.heap.size, 11, none⟩ = some (.bool o.dn) := by rw [hw1]; simp
 have HF : Hid (∀ W, Below w.heap.size w W -> PlayIs w0 W y N T U) := fun W hb => h.below hb
 have HFR : Hid (∀ q, w.heap.size <= q -> w0.heap.size <= q /\ q ≠ y /\ ¬ U q /\ ∀ i, i < 3 -> ∀ t, T i = some t -> ¬ t.fp q) := fun q hq => ⟨Nat.le_trans h.bl.size hq, by omega, fun e => by have := (h.kb.ul q e).2.2; omega, fun i hi t ht e => by have := (h.tw i hi t ht).lt e; omega⟩
 have hp1 := h.p j hj
 have hd1 := h.d j hj
 rw [ht] at hp1 hd1
 have hp1 : w.cell? ⟨y, j, none⟩ = some (.pointer none) := hp1
 have hd1 : w.cell? ⟨y, 3 + j, none⟩ = some (.pointer none) := hd1
 have hjI : (0 : Int) <= (j : Int) := by omega
 have hjI3 : (j : Int) < 3 := by omega
 unfold OpV.val
 rw [hd, hk]
 obtain ⟨x1, hx1⟩ : ∃ x1, x1 = w1.alloc (.cells #[.int .i64 o.cp, .slice o.pf o.fs.length o.cf, .int .i64 o.fu, .bool o.dn] 59) := ⟨_, rfl⟩
 have A1 : Hid (Below w1.heap.size w1 x1) := by rw [hx1]; exact bal (Below.refl _ _) _
 have zx1 : x1.heap.size = w1.heap.size + 1 := by rw [hx1]; simp
 have BX1 : Hid (Below w.heap.size w x1) := (uh B1).trans ((uh A1).mono (uh B1).size)
 have o0 := keep1 (uh A1) (by show w.heap.size < w1.heap.size; omega) e0
 have o1 := keep1 (uh A1) (by show w.heap.size < w1.heap.size; omega) e1
 have p2 := keep1 (uh BX1) hyl hp1
 have d2 := keep1 (uh BX1) hyl hd1
 clear h hd hk ho ht hp1 hd1
 go_enter Tryz.func14, Tryz.ntmps14
 go_wp2_with fail
 rw [<- hw1]
 clear hw1
 go_wp2_with fail
 rw [<- hx1]
 clear hx1 e0 e1 b8 b9 b10 b11
 go_wp2_with fail
 refine wp_region_last (n := 18) (S := fun W => W.cell? ⟨w.heap.size, 0, none⟩ = some (.int .i64 (j : Int)) /\ W.cell? ⟨y, j, none⟩ = some (.pointer none) /\ W.cell? ⟨y, 3 + j, none⟩ = some (.pointer none)) (by kernel_rfl) (by first | (exact ⟨o0, p2, d2⟩)) (fun hHeld => ?_)
 refine tkW 0 ?_; refine tkW 1 ?_; refine tkN 2 ?_; refine tkW 3 ?_; refine tkW 4 ?_; refine tkW 5 ?_; refine tkN 6 ?_; refine tkW 7 ?_; refine tkW 8 ?_; refine tkX 9 ?_; refine tkX 10 ?_
 refine tkX 11 ?_; refine tkX 12 ?_; refine tkX 13 ?_; refine tkX 14 ?_; refine tkX 15 ?_; refine tkX 16 ?_; refine tkW 17 ?_
 refine wpAnyL_done (by kernel_rfl) ?_
 go_wp2_with fail
 go_ret
 exact ⟨rfl, T, U, ((uh HF x1 (uh BX1)).below (Below.refl _ _).drew).mono (by omega)⟩
theorem made_againY {w0 w : World} {y N j : Nat} {T : Nat -> Option Tw} {U : Nat -> Prop} (h : PlayIs w0 w y N T U) (hj : j < 3) (hN : N < 800000) (o : OpV) (hd : o.d = (j : Int)) (hk : o.kd = 16) (ho : OpIn w0 o) {t : Tw} (ht : T j = some t) (hv : validV t.K.cap (t.K.A.map toFV) t.K.fuse t.K.down = true) :
  Calls Tryz.prog 14 #[.pointer (some ⟨y, 0, none⟩), o.val] w fun e w' => e = .returned (.bool true) /\ ∃ T' U', PlayIs w0 w' y (N + 64) T' U' := by
 have hyl := h.kb.lt
 have hyw : w0.heap.size <= y := h.yl
 obtain ⟨w1, hw1⟩ : ∃ w1, w1 = w.alloc (.cells #[.int .i64 (j : Int), .int .i64 16, .string o.nm, .string o.to, .slice o.pu o.b2.length o.cu, .int .i64 o.pos, .int .i64 o.n, .slice o.pk o.ks.length o.ck, .int .i64 o.cp, .slice o.pf o.fs.length o.cf, .int .i64 o.fu, .bool o.dn] 61) := ⟨_, rfl⟩
 have B1 : Hid (Below w.heap.size w w1) := by rw [hw1]; exact bal (Below.refl _ _) _
 have hz1 : w1.heap.size = w.heap.size + 1 := by rw [hw1]; simp
 have e0 : w1.cell? ⟨w.heap.size, 0, none⟩ = some (.int .i64 (j : Int)) := by rw [hw1]; simp
 have e1 : w1.cell? ⟨w.heap.size, 1, none⟩ = some (.int .i64 16) := by rw [hw1]; simp
 have b8 : w1.cell? ⟨w.heap.size, 8, none⟩ = some (.int .i64 o.cp) := by rw [hw1]; simp
 have b9 : w1.cell? ⟨w.heap.size, 9, none⟩ = some (.slice o.pf o.fs.length o.cf) := by rw [hw1]; simp
 have b10 : w1.cell? ⟨w.heap.size, 10, none⟩ = some (.int .i64 o.fu) := by rw [hw1]; simp
 have b11 : w1.cell? ⟨w.heap.size, 11, none⟩ = some (.bool o.dn) := by rw [hw1]; simp
 have HF : Hid (∀ W, Below w.heap.size w W -> PlayIs w0 W y N T U) := fun W hb => h.below hb
 have HFR : Hid (∀ q, w.heap.size <= q -> w0.heap.size <= q /\ q ≠ y /\ ¬ U q /\ ∀ i, i < 3 -> ∀ t, T i = some t -> ¬ t.fp q) := fun q hq => ⟨Nat.le_trans h.bl.size hq, by omega, fun e => by have := (h.kb.ul q e).2.2; omega, fun i hi t ht e => by have := (h.tw i hi t ht).lt e; omega⟩
 have hT := h.tw j hj t ht
 have hp1 := h.p j hj
 have hd1 := h.d j hj
 rw [ht] at hp1 hd1
 have hp1 : w.cell? ⟨y, j, none⟩ = some (.pointer (some ⟨t.pb, 0, none⟩)) := hp1
 have hd1 : w.cell? ⟨y, 3 + j, none⟩ = some (.pointer (some ⟨t.rb, 0, none⟩)) := hd1
 have HPW : Hid (Kt.Pw w) := h.kb.tab
 have HR : Hid (∀ W, Below w.heap.size w W -> Calls Tryz.prog 12 #[.pointer (some ⟨t.rb, 0, none⟩)] W fun e w2 => (∃ v, e = .returned (.agg #[.int .i64 t.K.cap, v, .int .i64 t.K.fuse, .bool t.K.down]) /\ ∃ b, W.heap.size <= b /\ FilesRow w2 b w2.heap.size v t.K.A) /\ Below W.heap.size W w2) := fun W hb => rstate_ok (hT.r.below hb) hT.i
 obtain ⟨l, hl⟩ : ∃ l, l = t.K.A.map toFV := ⟨_, rfl⟩
 have hlm : l.length <= 2932031007320 := by rw [hl, List.length_map]; have := hT.i.many; omega
 have HBL : Hid (∀ f ∈ l, f.bs.length <= 140737488351232) := fun f hf => by
  rw [hl] at hf
  obtain ⟨p, hp, rfl⟩ := List.mem_map.1 hf
  have h1 := mem_tot hp
  have h2 := hT.tt
  show p.2.bs.length <= _
  omega
 have HNM : Hid (∀ f ∈ l, f.nm.size <= 9223372036854775806) := fun f hf => by
  rw [hl] at hf
  obtain ⟨p, hp, rfl⟩ := List.mem_map.1 hf
  have h1 := nameS_size (hT.i.nm p hp)
  show (ByteArray.mk p.1.toArray).size <= _
  omega
 have HLA : Hid (t.K.A.length = l.length) := by show _ = _; rw [hl, List.length_map]
 have HLL := hide hl
 obtain ⟨CP, hCP⟩ : ∃ CP, CP = t.K.cap := ⟨_, rfl⟩
 obtain ⟨FU, hFU⟩ : ∃ FU, FU = t.K.fuse := ⟨_, rfl⟩
 obtain ⟨DN, hDN⟩ : ∃ DN, DN = t.K.down := ⟨_, rfl⟩
 rw [<- hCP, <- hFU, <- hDN] at HR
 have HV : Hid (validV CP l FU DN = true) := by rw [hCP, hFU, hDN, hl]; exact hv
 have hjI : (0 : Int) <= (j : Int) := by omega
 have hjI3 : (j : Int) < 3 := by omega
 unfold OpV.val
 rw [hd, hk]
 obtain ⟨x1, hx1⟩ : ∃ x1, x1 = w1.alloc (.cells #[.int .i64 o.cp, .slice o.pf o.fs.length o.cf, .int .i64 o.fu, .bool o.dn] 59) := ⟨_, rfl⟩
 have A1 : Hid (Below w1.heap.size w1 x1) := by rw [hx1]; exact bal (Below.refl _ _) _
 have zx1 : x1.heap.size = w1.heap.size + 1 := by rw [hx1]; simp
 have BX1 : Hid (Below w.heap.size w x1) := (uh B1).trans ((uh A1).mono (uh B1).size)
 have o0 := keep1 (uh A1) (by show w.heap.size < w1.heap.size; omega) e0
 have o1 := keep1 (uh A1) (by show w.heap.size < w1.heap.size; omega) e1
 have p2 := keep1 (uh BX1) hyl hp1
 have d2 := keep1 (uh BX1) hyl hd1
 have hsx : w.heap.size + 1 < x1.heap.size := by omega
 have T0 : Hid (x1.cell? ⟨w.heap.size + 1, 0, none⟩ = some (.int .i64 o.cp)) := by show _ = _; rw [hx1, <- hz1]; go_simp
 have T1 : Hid (x1.cell? ⟨w.heap.size + 1, 1, none⟩ = some (.slice o.pf o.fs.length o.cf)) := by show _ = _; rw [hx1, <- hz1]; go_simp
 have T2 : Hid (x1.cell? ⟨w.heap.size + 1, 2, none⟩ = some (.int .i64 o.fu)) := by show _ = _; rw [hx1, <- hz1]; go_simp
 have T3 : Hid (x1.cell? ⟨w.heap.size + 1, 3, none⟩ = some (.bool o.dn)) := by show _ = _; rw [hx1, <- hz1]; go_simp
 have TF : Hid (∀ i, x1.frozen? ⟨w.heap.size + 1, i, none⟩ = false) := by intro i; rw [hx1, <- hz1]; go_simp
 have BXd : Hid (Below w.heap.size w x1.drew.drew) := (uh BX1).drew.drew
 clear h hd hk ho ht hv hl hCP hFU hDN hp1 hd1 hT
 go_enter Tryz.func14, Tryz.ntmps14
 go_wp2_with fail
 rw [<- hw1]
 clear hw1
 go_wp2_with fail
 rw [<- hx1]
 clear hx1 e0 e1 b8 b9 b10 b11
 go_wp2_with fail
 refine wp_region_last (n := 18) (S := fun W => W.cell? ⟨w.heap.size, 0, none⟩ = some (.int .i64 (j : Int)) /\ W.cell? ⟨y, j, none⟩ = some (.pointer (some ⟨t.pb, 0, none⟩)) /\ W.cell? ⟨y, 3 + j, none⟩ = some (.pointer (some ⟨t.rb, 0, none⟩))) (by kernel_rfl) (by first | (exact ⟨o0, p2, d2⟩)) (fun hHeld => ?_)
 refine tkW 0 ?_; refine tkW 1 ?_; refine tkN 2 ?_; refine tkW 3 ?_; refine tkW 4 ?_; refine tkW 5 ?_; refine tkN 6 ?_; refine tkW 7 ?_; refine tkW 8 ?_; refine tkW 9 ?_; refine tkW 10 ?_
 refine tkN 11 ?_; refine tkW 12 ?_; refine tkW 13 ?_; refine tkW 14 ?_; refine tkN 15 ?_; refine tkW 16 ?_; refine tkW 17 ?_
 refine wpAnyL_done (by kernel_rfl) ?_
 go_wp2_with fail
 refine wp_region_last (n := 8) (S := fun W => W.cell? ⟨w.heap.size, 0, none⟩ = some (.int .i64 (j : Int)) /\ W.cell? ⟨y, 3 + j, none⟩ = some (.pointer (some ⟨t.rb, 0, none⟩))) (by kernel_rfl) (by first | (exact ⟨o0, d2⟩)) (fun hHeld => ?_)
 refine tkW 0 ?_; refine tkW 1 ?_; refine tkS 2 ?_; refine tkW 3 ?_; refine tkW 4 ?_; refine tkW 5 ?_; refine tkS 6 ?_
 refine wpAnyL_one (i := 7) (by kernel_rfl) rfl (fun KK hK => ?_)
 go_simp
 go_at_call 12
 refine (uh HR _ (uh BXd)).mono ?_
 rintro r w4 ⟨⟨v, rfl, bs, hbs, ra⟩, hb4⟩
 obtain ⟨pf, cf, hv⟩ : ∃ p c, v = .slice p l.length c := by
  obtain ⟨p, c, h1⟩ := ra.shape
  exact ⟨p, c, by rw [h1, uh HLA]⟩
 subst hv
 have RA := hide ra
 have hbs : x1.heap.size <= bs := hbs
 have hz4 : x1.heap.size <= w4.heap.size := hb4.size
 have C4 : Hid (Below x1.heap.size x1 w4) := ⟨hb4.os, hb4.tape, hb4.output, hb4.size, hb4.block⟩
 have o4 := keep1 (uh C4) (by omega) o0
 have d4 := keep1 (uh C4) (by omega) d2
 have g0 := keep1 (uh C4) hsx (uh T0)
 have g1 := keep1 (uh C4) hsx (uh T1)
 have g2 := keep1 (uh C4) hsx (uh T2)
 have g3 := keep1 (uh C4) hsx (uh T3)
 have gf := fun i => keepF (uh C4) hsx (uh TF i)
 clear ra hb4
 refine hK.out _ _ (by first | (exact ⟨o4, d4⟩)) (fun hHeld => ?_)
 clear hK KK
 refine wpAnyL_end (i := 8) (by kernel_rfl) rfl (by kernel_rfl) (by kernel_rfl) (fun KK hK => ?_)
 go_simp
 refine hK.out _ _ ?_
 clear hK KK
 obtain ⟨x2, hx2⟩ : ∃ x2, x2 = (((w4.setCell ⟨w.heap.size + 1, 0, none⟩ (.int .i64 CP)).setCell ⟨w.heap.size + 1, 1, none⟩ (.slice pf l.length cf)).setCell ⟨w.heap.size + 1, 2, none⟩ (.int .i64 FU)).setCell ⟨w.heap.size + 1, 3, none⟩ (.bool DN) := ⟨_, rfl⟩
 have hq2 : ∀ q, q ≠ w.heap.size + 1 -> x2.heap[q]? = w4.heap[q]? := fun q h1 => by
  rw [hx2, Below.heap_setCell _ ⟨w.heap.size + 1, 3, none⟩ _ q h1, Below.heap_setCell _ ⟨w.heap.size + 1, 2, none⟩ _ q h1, Below.heap_setCell _ ⟨w.heap.size + 1, 1, none⟩ _ q h1, Below.heap_setCell _ ⟨w.heap.size + 1, 0, none⟩ _ q h1]
 have zx2 : x2.heap.size = w4.heap.size := by rw [hx2]; simp
 have hs2 : w.heap.size + 1 < x2.heap.size := by omega
 have hB4 : Below w.heap.size w w4 := (uh BX1).trans ((uh C4).mono (uh BX1).size)
 have BX2 : Hid (Below w.heap.size w x2) := ⟨by rw [hx2]; exact hB4.os, by rw [hx2]; exact hB4.tape, by rw [hx2]; exact hB4.output, by rw [zx2]; exact hB4.size, fun q hlt => (hq2 q (by omega)).trans (hB4.block q hlt)⟩
 have SB0 : Hid (x2.cell? ⟨w.heap.size + 1, 0, none⟩ = some (.int .i64 CP)) := by show _ = _; rw [hx2]; go_simp
 have SB1 : Hid (x2.cell? ⟨w.heap.size + 1, 1, none⟩ = some (.slice pf l.length cf)) := by show _ = _; rw [hx2]; go_simp
 have SB2 : Hid (x2.cell? ⟨w.heap.size + 1, 2, none⟩ = some (.int .i64 FU)) := by show _ = _; rw [hx2]; go_simp
 have SB3 : Hid (x2.cell? ⟨w.heap.size + 1, 3, none⟩ = some (.bool DN)) := by show _ = _; rw [hx2]; go_simp
 have O0 : Hid (x2.cell? ⟨w.heap.size, 0, none⟩ = some (.int .i64 (j : Int))) := (World.cell?_of_block (a := ⟨w.heap.size, 0, none⟩) (hq2 w.heap.size (by omega))).trans o4
 have FIN : Hid (FilesIn x2 pf l) := by
  have h9 : FilesRow x2 bs w4.heap.size (.slice pf l.length cf) t.K.A := (uh RA).sep (Nat.le_refl _) (S := fun q => q = w.heap.size + 1) (S' := fun q => q = w.heap.size + 1) ⟨by rw [hx2]; rfl, by rw [hx2]; rfl, by rw [hx2]; rfl, by rw [zx2]; exact Nat.le_refl _, fun q _ hn => hq2 q hn, fun q h1 => .inl h1⟩ (fun q h1 => by have h1 : q = w.heap.size + 1 := h1; omega)
  have h8 := files_in h9
  rw [<- uh HLL] at h8
  exact h8
 have PW := hide ((uh HPW).below (uh BX2))
 go_wp2_with fail
 rw [<- hx2]
 clear hx2 hq2 o4 d4 g0 g1 g2 g3 gf o0 o1 p2 d2 hB4
 refine (loosened_ok CP FU DN pf cf l (uh FIN) hlm (uh HBL) (uh PW)).mono ?_
 rintro r w3 ⟨g, c, lv, fv, gr, cr, rfl, hLo, hroom, hb3⟩
 obtain ⟨pl, cl, hlv⟩ := row_form hLo.lr
 subst hlv
 have LO3 := hide hLo
 have RM3 := hide hroom
 have hgr := hroom.lt gr rfl
 have hz3 : x2.heap.size <= w3.heap.size := hb3.size
 have C3 : Hid (Below x2.heap.size x2 w3) := hb3
 obtain ⟨x3, hx3⟩ : ∃ x3, x3 = w3.alloc (.cells #[.int .i64 CP, .slice (some ⟨gr, 0, none⟩) l.length cr, .int .i64 FU, .bool DN] 59) := ⟨_, rfl⟩
 have A3 : Hid (Below w3.heap.size w3 x3) := by rw [hx3]; exact bal (Below.refl _ _) _
 have zx3 : x3.heap.size = w3.heap.size + 1 := by rw [hx3]; simp
 have i0 : x3.cell? ⟨w3.heap.size, 0, none⟩ = some (.int .i64 CP) := by rw [hx3]; simp
 have i1 : x3.cell? ⟨w3.heap.size, 1, none⟩ = some (.slice (some ⟨gr, 0, none⟩) l.length cr) := by rw [hx3]; simp
 have i2 : x3.cell? ⟨w3.heap.size, 2, none⟩ = some (.int .i64 FU) := by rw [hx3]; simp
 have i3 : x3.cell? ⟨w3.heap.size, 3, none⟩ = some (.bool DN) := by rw [hx3]; simp
 have Cx3 : Hid (Below x2.heap.size x2 x3) := (uh C3).trans ((uh A3).mono (uh C3).size)
 have FAP := hide ((lo_files hLo hroom).below (uh A3))
 clear hLo hroom hb3
 go_wp2_with fail
 rw [<- hx3]
 clear hx3
 refine (from_yes CP FU DN (some ⟨gr, 0, none⟩) cr l (uh FAP) (uh HNM) (fun f hf => by have := uh HBL f hf; omega) (uh HV)).mono ?_
 rintro r w4 ⟨d, rfl, SD, hd4, hsd, hb4⟩
 have D4 := hide hd4
 have HSD := hide hsd
 clear hd4 hsd
 have C34 : Hid (Below x3.heap.size x3 w4) := hb4
 have C4 : Hid (Below x2.heap.size x2 w4) := (uh Cx3).trans (hb4.mono (uh Cx3).size)
 have hz4 : x3.heap.size <= w4.heap.size := hb4.size
 have FI4 := hide ((uh FIN).below (uh C4))
 have s0 := keep1 (uh C4) hs2 (uh SB0)
 have s1 := keep1 (uh C4) hs2 (uh SB1)
 have s2 := keep1 (uh C4) hs2 (uh SB2)
 have s3 := keep1 (uh C4) hs2 (uh SB3)
 clear hb4
 go_wp2_with fail
 refine (rfrom_yes CP FU DN pf cf l (uh FI4) (by omega) (uh HNM) (fun f hf => by have := uh HBL f hf; omega) (uh HV)).mono ?_
 rintro r w5 ⟨d', rfl, VD, hd5, hvd, hb5⟩
 have D5 := hide hd5
 have HVD := hide hvd
 clear hd5 hvd
 have C45 : Hid (Below w4.heap.size w4 w5) := hb5
 have C5 : Hid (Below x2.heap.size x2 w5) := (uh C4).trans (hb5.mono (uh C4).size)
 have C35 : Hid (Below x3.heap.size x3 w5) := (uh C34).trans (hb5.mono (uh C34).size)
 have hz5 : w4.heap.size <= w5.heap.size := hb5.size
 have s0 := keep1 hb5 (by omega) s0
 have s1 := keep1 hb5 (by omega) s1
 have s2 := keep1 hb5 (by omega) s2
 have s3 := keep1 hb5 (by omega) s3
 have i0 := keep1 (uh C35) (by omega) i0
 have i1 := keep1 (uh C35) (by omega) i1
 have i2 := keep1 (uh C35) (by omega) i2
 have i3 := keep1 (uh C35) (by omega) i3
 have hsm := hide (same_in (w := w5) CP FU DN (some ⟨gr, 0, none⟩) pf cr cf l ((uh FAP).in.below (uh C35)) ((uh FIN).below (uh C5)) hlm)
 clear hb5
 go_wp2_with fail
 refine (num_any _ _).mono ?_
 rintro r wz ⟨rfl, hw⟩
 rw [hw]
 clear hw wz
 go_wp2_with fail
 refine (num_any _ _).mono ?_
 rintro r wz ⟨rfl, hw⟩
 rw [hw]
 clear hw wz
 go_wp2_with fail
 refine (uh hsm).mono ?_
 rintro r w6 ⟨rfl, hb6⟩
 have C56 : Hid (Below w5.heap.size w5 w6) := hb6
 have C6 : Hid (Below x2.heap.size x2 w6) := (uh C5).trans (hb6.mono (uh C5).size)
 have hz6 : w5.heap.size <= w6.heap.size := hb6.size
 have C36 : Hid (Below w3.heap.size w3 w6) := ((uh A3).trans ((uh C35).mono (uh A3).size)).trans (hb6.mono (by omega))
 clear hb6 hsm s0 s1 s2 s3 i0 i1 i2 i3
 go_wp2_with fail
 go_loopw [17, 18] (fun ok u wr => ∃ i : Nat, i <= l.length /\ ok = .bool true /\ u = .int .i64 (i : Int) /\ Below w6.heap.size w6 wr) (fun _ u _ => l.length - (intOf u).toNat)
 case atStart => exact ⟨0, Nat.zero_le _, rfl, rfl, Below.refl _ _⟩
 case round =>
  obtain ⟨i, hi, rfl, rfl, hbr⟩ := hrel
  have HBR := hide hbr
  have CR2 : Hid (Below x2.heap.size x2 wr) := (uh C6).trans (hbr.mono (uh C6).size)
  have CR3 : Hid (Below w3.heap.size w3 wr) := (uh C36).trans (hbr.mono (uh C36).size)
  by_cases hlt : i < l.length
  ·have hne : l ≠ [] := fun e => by rw [e] at hlt; simp at hlt
   obtain ⟨x, hx⟩ : ∃ x, l[i]? = some x := ⟨_, List.getElem?_eq_getElem hlt⟩
   obtain ⟨b, off, hpf, hcell⟩ := uh FIN hne
   obtain ⟨p, cx, _, f1, _, hby⟩ := hcell i x hx
   have hxd : l[i]?.getD default = x := by rw [hx]; rfl
   have hgl : ∃ gl, pl = some ⟨gl, 0, none⟩ := by
    rcases (uh LO3).lr.2 with ⟨_, h2⟩ | ⟨gl, cap, cur, h1, _⟩
    ·omega
    ·injection h1 with h1 _ _; exact ⟨gl, h1⟩
   obtain ⟨gl, hpl⟩ := hgl
   subst hpl hpf
   have l1 : wr.cell? ⟨gl, i, none⟩ = some (.slice (some ⟨g i, 0, none⟩) (x.bs.length + 64) (c i)) := by
    rw [World.cell?_of_block ((uh CR3).block gl ((uh LO3).lr.lt gl rfl).2), (uh LO3).lr.cellAt i (by omega), lcells_get _ _ _ _ _ hlt, hxd]
   have l2 : wr.cell? ⟨w.heap.size + 1, 1, none⟩ = some (.slice (some ⟨b, off, none⟩) l.length cf) := keep1 (uh CR2) hs2 (uh SB1)
   have l3 : wr.cell? ⟨b, off + i * 3 + 1, none⟩ = some (.slice p x.bs.length cx) := keep1 (uh CR2) (World.block_lt_of_cell? x2 _ f1) f1
   have hls := (uh LO3).ls i hlt
   rw [hxd] at hls
   have hkp := hide (Kp.kept_in (w := wr.drew) (hby.below (uh CR2).drew) (uh HBL x (List.mem_of_getElem? hx)) (g i) (c i) (fun k hk => by
    have h9 := (row_far hls (fun q hq => (uh CR3).block q (hls.lt q hq).2)).cellAt k (by omega)
    rw [Kp.bcells_get _ _ _ hk] at h9
    exact h9))
   have hI : (i : Int) < (l.length : Int) := by omega
   have hI0 : (0 : Int) <= (i : Int) := by omega
   clear hbr hne hx hcell f1 hby hxd hls
   go_wp2_with fail
   refine wp_region_last (n := 15) (S := fun W => W.cell? ⟨gl, i, none⟩ = some (.slice (some ⟨g i, 0, none⟩) (x.bs.length + 64) (c i)) /\ W.cell? ⟨w.heap.size + 1, 1, none⟩ = some (.slice (some ⟨b, off, none⟩) l.length cf) /\ W.cell? ⟨b, off + i * 3 + 1, none⟩ = some (.slice p x.bs.length cx)) (by kernel_rfl) (by first | (exact ⟨l1, l2, l3⟩)) (fun hHeld => ?_)
   refine tkW 0 ?_; refine tkW 1 ?_; refine tkW 2 ?_; refine tkW 3 ?_; refine tkW 4 ?_; refine tkN 5 ?_; refine tkW 6 ?_; refine tkN 7 ?_; refine tkW 8 ?_; refine tkW 9 ?_; refine tkW 10 ?_
   refine tkN 11 ?_
   refine wpAnyL_one (i := 12) (by kernel_rfl) rfl (fun KK hK => ?_)
   go_simp
   go_at_call 94
   refine (uh hkp).mono ?_
   rintro r w7 ⟨rfl, m, hw7⟩
   have B7 : Hid (Below wr.heap.size wr w7) := by rw [hw7]; exact ⟨rfl, rfl, rfl, Nat.le_refl _, fun _ _ => rfl⟩
   have l1 : w7.cell? ⟨gl, i, none⟩ = some (.slice (some ⟨g i, 0, none⟩) (x.bs.length + 64) (c i)) := by rw [hw7]; exact l1
   have l2 : w7.cell? ⟨w.heap.size + 1, 1, none⟩ = some (.slice (some ⟨b, off, none⟩) l.length cf) := by rw [hw7]; exact l2
   have l3 : w7.cell? ⟨b, off + i * 3 + 1, none⟩ = some (.slice p x.bs.length cx) := by rw [hw7]; exact l3
   clear hw7
   refine hK.out _ _ (by first | (exact ⟨l1, l2, l3⟩)) (fun hHeld => ?_)
   clear hK KK
   refine tkW 13 ?_; refine tkW 14 ?_
   refine wpAnyL_done (by kernel_rfl) ?_
   go_wp2_with fail
   exact ⟨⟨i + 1, by omega, rfl, by go_num, (uh HBR).trans ((uh B7).mono (uh HBR).size)⟩, by simp [intOf]; omega⟩
  ·have hI : ¬ (i : Int) < (l.length : Int) := by omega
   have hkf := hide (keptf_in (W := wr) (ca := cf) ((uh FIN).below (uh CR2)) (row_far (uh RM3) (fun q hq => (uh CR3).block q ((uh RM3).lt q hq).2)) ((uh PW).below (uh CR2)) hlm)
   have l2 : wr.cell? ⟨w.heap.size + 1, 1, none⟩ = some (.slice pf l.length cf) := keep1 (uh CR2) hs2 (uh SB1)
   have hz7 : w6.heap.size <= wr.heap.size := hbr.size
   clear hbr
   go_wp2_with fail
   refine (uh hkf).mono ?_
   rintro r w8 ⟨rfl, hb8⟩
   have C8 : Hid (Below x2.heap.size x2 w8) := (uh CR2).trans (hb8.mono (uh CR2).size)
   have C38 : Hid (Below w3.heap.size w3 w8) := (uh CR3).trans (hb8.mono (uh CR3).size)
   have C59 : Hid (Below w5.heap.size w5 w8) := ((uh C56).trans ((uh HBR).mono (uh C56).size)).trans (hb8.mono (by omega))
   have hz8 : wr.heap.size <= w8.heap.size := hb8.size
   obtain ⟨X, hX⟩ : ∃ X : Nat -> Prop, X = fun q => (∃ i, i < l.length /\ q = g i) \/ q = gr := ⟨_, rfl⟩
   have hXl : ∀ q, X q -> x2.heap.size <= q /\ q < w3.heap.size := fun q hq => by
    rw [hX] at hq
    rcases hq with ⟨i, hi, e⟩ | e
    ·rw [e]; exact (((uh LO3).ls i hi).lt (g i) rfl)
    ·rw [e]; exact hgr
   have LO8 := hide ((uh LO3).below (uh C38))
   have RM8 := hide (row_far (uh RM3) (fun q hq => (uh C38).block q ((uh RM3).lt q hq).2))
   have hOv : Calls Tryz.prog 96 #[.slice pl l.length cl, .slice (some ⟨gr, 0, none⟩) (l.length + 64) cr] w8 fun e w' => e = .returned (.tuple #[]) /\ Ov w8 w' X := by
    have hgl : ∃ gl, (0 < l.length -> pl = some ⟨gl, 0, none⟩) /\ ¬ X gl /\ ∀ i, i < l.length -> w8.cell? ⟨gl, i, none⟩ = some (.slice (some ⟨g i, 0, none⟩) ((l[i]?.getD default).bs.length + 64) (c i)) := by
     rcases (uh LO8).lr.2 with ⟨_, h2⟩ | ⟨gl, cap, cur, h1, _⟩
     ·exact ⟨w8.heap.size, fun h => by omega, fun h => by have := hXl _ h; omega, fun i hi => by omega⟩
     ·injection h1 with h1 _ _
      refine ⟨gl, fun _ => h1, fun h => ?_, fun i hi => ?_⟩
      ·rw [hX] at h
       rcases h with ⟨i, hi, e⟩ | e
       ·exact rows_apart (uh LO8).lr ((uh LO8).ls i hi) (by decide) (by rw [h1]; rfl) (by rw [e]; rfl)
       ·exact rows_apart (uh LO8).lr (uh RM8) (by decide) (by rw [h1]; rfl) (by rw [e]; rfl)
      ·have h9 := (uh LO8).lr
       rw [h1] at h9
       rw [h9.cellAt i (by omega)]
       exact lcells_get _ _ _ _ _ hi
    obtain ⟨gl, hg1, hg2, hg3⟩ := hgl
    exact over_ok X pl l.length cl gl g (fun i => (l[i]?.getD default).bs.length + 64) c (by omega) hg1 hg2 (fun i hi => ⟨hg3 i hi, by rw [hX]; exact .inl ⟨i, hi, rfl⟩, by have h9 := Live.of_own ((uh LO8).ls i hi); rw [Nat.mul_one] at h9; exact h9, by
     obtain ⟨x, hx⟩ : ∃ x, l[i]? = some x := ⟨_, List.getElem?_eq_getElem hi⟩
     have h9 := uh HBL x (List.mem_of_getElem? hx)
     rw [hx]
     show x.bs.length + 64 <= _
     omega⟩) (some ⟨gr, 0, none⟩) (l.length + 64) cr gr (by omega) (fun _ => ⟨rfl, by rw [hX]; exact .inr rfl⟩) (Live.of_own (uh RM8))
   have HOC := hide hOv
   clear hb8 hkf l2 hOv hX
   go_wp2_with fail
   refine (uh HOC).mono ?_
   rintro r w9 ⟨rfl, hov⟩
   have HOV := hide hov
   have P10 := (((uh HF w8 ((uh BX2).trans ((uh C8).mono (uh BX2).size))).apart hov.sep (fun q hq => uh HFR q (by have h1 := (uh BX2).size; have h2 := (hXl q hq).1; omega))).mono (N' := N + 64) (by omega))
   have x0 : w9.cell? ⟨w.heap.size, 0, none⟩ = some (.int .i64 (j : Int)) := (World.cell?_of_block (a := ⟨w.heap.size, 0, none⟩) (hov.block w.heap.size (fun h => by have := (hXl _ h).1; omega))).trans (keep1 (uh C8) (by omega) (uh O0))
   have yp := P10.p j hj
   have yd := P10.d j hj
   have fz := P10.kb.fz
   have HP := hide (P10.put hj (some ⟨d, d', ⟨CP, l.map FV.fl, FU, DN⟩, SD, VD⟩) (fun t ht => by
    injection ht with ht
    subst ht
    have hS9 : ∀ q, SD q -> ¬ X q := fun q hq hX => by have h1 := uh HSD q hq; have h2 := hXl q hX; omega
    have hV9 : ∀ q, VD q -> ¬ X q := fun q hq hX => by have h1 := uh HVD q hq; have h2 := hXl q hX; omega
    have hD9 := ((((uh D4).below (uh C45)).below (uh C59)).sep (uh HOV).sep hS9).mono (N' := N + 64) (by omega)
    have hR9 := ((uh D5).below (uh C59)).sep (uh HOV).sep hV9
    refine ⟨⟨hD9, hR9, (valid_inv (uh HV)).1, fun q h1 h2 => ?_⟩, fun q hq => ?_⟩
    ·have h3 := uh HVD q h2
     have h4 := (uh D4).sl q h1
     omega
    ·rcases hq with hq | hq
     ·exact uh HFR q (by have := uh HSD q hq; omega)
     ·exact uh HFR q (by have := uh HVD q hq; omega)))
   clear hov P10 HOC
   go_wp2_with fail
   refine wp_region_last (n := 7) (S := fun W => W.cell? ⟨w.heap.size, 0, none⟩ = some (.int .i64 (j : Int))) (by kernel_rfl) (by first | (exact x0)) (fun hHeld => ?_)
   refine tkW 0 ?_; refine tkW 1 ?_; refine tkS 2 ?_; refine tkW 3 ?_; refine tkW 4 ?_; refine tkW 5 ?_; refine tkW 6 ?_
   refine wpAnyL_end (i := 7) (by kernel_rfl) rfl (by kernel_rfl) (by kernel_rfl) (fun KK hK => ?_)
   go_simp
   refine hK.out _ _ ?_
   clear hK KK
   go_wp2_with fail
   refine wp_region_last (n := 7) (S := fun W => W.cell? ⟨w.heap.size, 0, none⟩ = some (.int .i64 (j : Int))) (by kernel_rfl) (by first | (exact (World.cell?_setCell_other w9 _ _ _ (by intro h'; injection h' with h' _ _; omega)).trans x0)) (fun hHeld => ?_)
   refine tkW 0 ?_; refine tkW 1 ?_; refine tkS 2 ?_; refine tkW 3 ?_; refine tkW 4 ?_; refine tkW 5 ?_; refine tkW 6 ?_
   refine wpAnyL_end (i := 7) (by kernel_rfl) rfl (by kernel_rfl) (by kernel_rfl) (fun KK hK => ?_)
   go_simp
   refine hK.out _ _ ?_
   clear hK KK
   go_wp2_with fail
   go_ret
   exact ⟨rfl, _, _, (uh HP).below (Below.refl _ _).drew.drew⟩
theorem made_againN {w0 w : World} {y N j : Nat} {T : Nat -> Option Tw} {U : Nat -> Prop} (h : PlayIs w0 w y N T U) (hj : j < 3) (hN : N < 800000) (o : OpV) (hd : o.d = (j : Int)) (hk : o.kd = 16) (ho : OpIn w0 o) {t : Tw} (ht : T j = some t) (hv : validV t.K.cap (t.K.A.map toFV) t.K.fuse t.K.down = false) :
  Calls Tryz.prog 14 #[.pointer (some ⟨y, 0, none⟩), o.val] w fun e w' => e = .returned (.bool true) /\ ∃ T' U', PlayIs w0 w' y (N + 64) T' U' := by
 have hyl := h.kb.lt
 have hyw : w0.heap.size <= y := h.yl
 obtain ⟨w1, hw1⟩ : ∃ w1, w1 = w.alloc (.cells #[.int .i64 (j : Int), .int .i64 16, .string o.nm, .string o.to, .slice o.pu o.b2.length o.cu, .int .i64 o.pos, .int .i64 o.n, .slice o.pk o.ks.length o.ck, .int .i64 o.cp, .slice o.pf o.fs.length o.cf, .int .i64 o.fu, .bool o.dn] 61) := ⟨_, rfl⟩
 have B1 : Hid (Below w.heap.size w w1) := by rw [hw1]; exact bal (Below.refl _ _) _
 have hz1 : w1.heap.size = w.heap.size + 1 := by rw [hw1]; simp
 have e0 : w1.cell? ⟨w.heap.size, 0, none⟩ = some (.int .i64 (j : Int)) := by rw [hw1]; simp
 have e1 : w1.cell? ⟨w.heap.size, 1, none⟩ = some (.int .i64 16) := by rw [hw1]; simp
 have b8 : w1.cell? ⟨w.heap.size, 8, none⟩ = some (.int .i64 o.cp) := by rw [hw1]; simp
 have b9 : w1.cell? ⟨w.heap.size, 9, none⟩ = some (.slice o.pf o.fs.length o.cf) := by rw [hw1]; simp
 have b10 : w1.cell? ⟨w.heap.size, 10, none⟩ = some (.int .i64 o.fu) := by rw [hw1]; simp
 have b11 : w1.cell? ⟨w.heap.size, 11, none⟩ = some (.bool o.dn) := by rw [hw1]; simp
 have HF : Hid (∀ W, Below w.heap.size w W -> PlayIs w0 W y N T U) := fun W hb => h.below hb
 have HFR : Hid (∀ q, w.heap.size <= q -> w0.heap.size <= q /\ q ≠ y /\ ¬ U q /\ ∀ i, i < 3 -> ∀ t, T i = some t -> ¬ t.fp q) := fun q hq => ⟨Nat.le_trans h.bl.size hq, by omega, fun e => by have := (h.kb.ul q e).2.2; omega, fun i hi t ht e => by have := (h.tw i hi t ht).lt e; omega⟩
 have hT := h.tw j hj t ht
 have hp1 := h.p j hj
 have hd1 := h.d j hj
 rw [ht] at hp1 hd1
 have hp1 : w.cell? ⟨y, j, none⟩ = some (.pointer (some ⟨t.pb, 0, none⟩)) := hp1
 have hd1 : w.cell? ⟨y, 3 + j, none⟩ = some (.pointer (some ⟨t.rb, 0, none⟩)) := hd1
 have HPW : Hid (Kt.Pw w) := h.kb.tab
 have HR : Hid (∀ W, Below w.heap.size w W -> Calls Tryz.prog 12 #[.pointer (some ⟨t.rb, 0, none⟩)] W fun e w2 => (∃ v, e = .returned (.agg #[.int .i64 t.K.cap, v, .int .i64 t.K.fuse, .bool t.K.down]) /\ ∃ b, W.heap.size <= b /\ FilesRow w2 b w2.heap.size v t.K.A) /\ Below W.heap.size W w2) := fun W hb => rstate_ok (hT.r.below hb) hT.i
 obtain ⟨l, hl⟩ : ∃ l, l = t.K.A.map toFV := ⟨_, rfl⟩
 have hlm : l.length <= 2932031007320 := by rw [hl, List.length_map]; have := hT.i.many; omega
 have HBL : Hid (∀ f ∈ l, f.bs.length <= 140737488351232) := fun f hf => by
  rw [hl] at hf
  obtain ⟨p, hp, rfl⟩ := List.mem_map.1 hf
  have h1 := mem_tot hp
  have h2 := hT.tt
  show p.2.bs.length <= _
  omega
 have HNM : Hid (∀ f ∈ l, f.nm.size <= 9223372036854775806) := fun f hf => by
  rw [hl] at hf
  obtain ⟨p, hp, rfl⟩ := List.mem_map.1 hf
  have h1 := nameS_size (hT.i.nm p hp)
  show (ByteArray.mk p.1.toArray).size <= _
  omega
 have HLA : Hid (t.K.A.length = l.length) := by show _ = _; rw [hl, List.length_map]
 have HLL := hide hl
 obtain ⟨CP, hCP⟩ : ∃ CP, CP = t.K.cap := ⟨_, rfl⟩
 obtain ⟨FU, hFU⟩ : ∃ FU, FU = t.K.fuse := ⟨_, rfl⟩
 obtain ⟨DN, hDN⟩ : ∃ DN, DN = t.K.down := ⟨_, rfl⟩
 rw [<- hCP, <- hFU, <- hDN] at HR
 have HV : Hid (validV CP l FU DN = false) := by rw [hCP, hFU, hDN, hl]; exact hv
 have hjI : (0 : Int) <= (j : Int) := by omega
 have hjI3 : (j : Int) < 3 := by omega
 unfold OpV.val
 rw [hd, hk]
 obtain ⟨x1, hx1⟩ : ∃ x1, x1 = w1.alloc (.cells #[.int .i64 o.cp, .slice o.pf o.fs.length o.cf, .int .i64 o.fu, .bool o.dn] 59) := ⟨_, rfl⟩
 have A1 : Hid (Below w1.heap.size w1 x1) := by rw [hx1]; exact bal (Below.refl _ _) _
 have zx1 : x1.heap.size = w1.heap.size + 1 := by rw [hx1]; simp
 have BX1 : Hid (Below w.heap.size w x1) := (uh B1).trans ((uh A1).mono (uh B1).size)
 have o0 := keep1 (uh A1) (by show w.heap.size < w1.heap.size; omega) e0
 have o1 := keep1 (uh A1) (by show w.heap.size < w1.heap.size; omega) e1
 have p2 := keep1 (uh BX1) hyl hp1
 have d2 := keep1 (uh BX1) hyl hd1
 have hsx : w.heap.size + 1 < x1.heap.size := by omega
 have T0 : Hid (x1.cell? ⟨w.heap.size + 1, 0, none⟩ = some (.int .i64 o.cp)) := by show _ = _; rw [hx1, <- hz1]; go_simp
 have T1 : Hid (x1.cell? ⟨w.heap.size + 1, 1, none⟩ = some (.slice o.pf o.fs.length o.cf)) := by show _ = _; rw [hx1, <- hz1]; go_simp
 have T2 : Hid (x1.cell? ⟨w.heap.size + 1, 2, none⟩ = some (.int .i64 o.fu)) := by show _ = _; rw [hx1, <- hz1]; go_simp
 have T3 : Hid (x1.cell? ⟨w.heap.size + 1, 3, none⟩ = some (.bool o.dn)) := by show _ = _; rw [hx1, <- hz1]; go_simp
 have TF : Hid (∀ i, x1.frozen? ⟨w.heap.size + 1, i, none⟩ = false) := by intro i; rw [hx1, <- hz1]; go_simp
 have BXd : Hid (Below w.heap.size w x1.drew.drew) := (uh BX1).drew.drew
 clear h hd hk ho ht hv hl hCP hFU hDN hp1 hd1 hT
 go_enter Tryz.func14, Tryz.ntmps14
 go_wp2_with fail
 rw [<- hw1]
 clear hw1
 go_wp2_with fail
 rw [<- hx1]
 clear hx1 e0 e1 b8 b9 b10 b11
 go_wp2_with fail
 refine wp_region_last (n := 18) (S := fun W => W.cell? ⟨w.heap.size, 0, none⟩ = some (.int .i64 (j : Int)) /\ W.cell? ⟨y, j, none⟩ = some (.pointer (some ⟨t.pb, 0, none⟩)) /\ W.cell? ⟨y, 3 + j, none⟩ = some (.pointer (some ⟨t.rb, 0, none⟩))) (by kernel_rfl) (by first | (exact ⟨o0, p2, d2⟩)) (fun hHeld => ?_)
 refine tkW 0 ?_; refine tkW 1 ?_; refine tkN 2 ?_; refine tkW 3 ?_; refine tkW 4 ?_; refine tkW 5 ?_; refine tkN 6 ?_; refine tkW 7 ?_; refine tkW 8 ?_; refine tkW 9 ?_; refine tkW 10 ?_
 refine tkN 11 ?_; refine tkW 12 ?_; refine tkW 13 ?_; refine tkW 14 ?_; refine tkN 15 ?_; refine tkW 16 ?_; refine tkW 17 ?_
 refine wpAnyL_done (by kernel_rfl) ?_
 go_wp2_with fail
 refine wp_region_last (n := 8) (S := fun W => W.cell? ⟨w.heap.size, 0, none⟩ = some (.int .i64 (j : Int)) /\ W.cell? ⟨y, 3 + j, none⟩ = some (.pointer (some ⟨t.rb, 0, none⟩))) (by kernel_rfl) (by first | (exact ⟨o0, d2⟩)) (fun hHeld => ?_)
 refine tkW 0 ?_; refine tkW 1 ?_; refine tkS 2 ?_; refine tkW 3 ?_; refine tkW 4 ?_; refine tkW 5 ?_; refine tkS 6 ?_
 refine wpAnyL_one (i := 7) (by kernel_rfl) rfl (fun KK hK => ?_)
 go_simp
 go_at_call 12
 refine (uh HR _ (uh BXd)).mono ?_
 rintro r w4 ⟨⟨v, rfl, bs, hbs, ra⟩, hb4⟩
 obtain ⟨pf, cf, hv⟩ : ∃ p c, v = .slice p l.length c := by
  obtain ⟨p, c, h1⟩ := ra.shape
  exact ⟨p, c, by rw [h1, uh HLA]⟩
 subst hv
 have RA := hide ra
 have hbs : x1.heap.size <= bs := hbs
 have hz4 : x1.heap.size <= w4.heap.size := hb4.size
 have C4 : Hid (Below x1.heap.size x1 w4) := ⟨hb4.os, hb4.tape, hb4.output, hb4.size, hb4.block⟩
 have o4 := keep1 (uh C4) (by omega) o0
 have d4 := keep1 (uh C4) (by omega) d2
 have g0 := keep1 (uh C4) hsx (uh T0)
 have g1 := keep1 (uh C4) hsx (uh T1)
 have g2 := keep1 (uh C4) hsx (uh T2)
 have g3 := keep1 (uh C4) hsx (uh T3)
 have gf := fun i => keepF (uh C4) hsx (uh TF i)
 clear ra hb4
 refine hK.out _ _ (by first | (exact ⟨o4, d4⟩)) (fun hHeld => ?_)
 clear hK KK
 refine wpAnyL_end (i := 8) (by kernel_rfl) rfl (by kernel_rfl) (by kernel_rfl) (fun KK hK => ?_)
 go_simp
 refine hK.out _ _ ?_
 clear hK KK
 obtain ⟨x2, hx2⟩ : ∃ x2, x2 = (((w4.setCell ⟨w.heap.size + 1, 0, none⟩ (.int .i64 CP)).setCell ⟨w.heap.size + 1, 1, none⟩ (.slice pf l.length cf)).setCell ⟨w.heap.size + 1, 2, none⟩ (.int .i64 FU)).setCell ⟨w.heap.size + 1, 3, none⟩ (.bool DN) := ⟨_, rfl⟩
 have hq2 : ∀ q, q ≠ w.heap.size + 1 -> x2.heap[q]? = w4.heap[q]? := fun q h1 => by
  rw [hx2, Below.heap_setCell _ ⟨w.heap.size + 1, 3, none⟩ _ q h1, Below.heap_setCell _ ⟨w.heap.size + 1, 2, none⟩ _ q h1, Below.heap_setCell _ ⟨w.heap.size + 1, 1, none⟩ _ q h1, Below.heap_setCell _ ⟨w.heap.size + 1, 0, none⟩ _ q h1]
 have zx2 : x2.heap.size = w4.heap.size := by rw [hx2]; simp
 have hs2 : w.heap.size + 1 < x2.heap.size := by omega
 have hB4 : Below w.heap.size w w4 := (uh BX1).trans ((uh C4).mono (uh BX1).size)
 have BX2 : Hid (Below w.heap.size w x2) := ⟨by rw [hx2]; exact hB4.os, by rw [hx2]; exact hB4.tape, by rw [hx2]; exact hB4.output, by rw [zx2]; exact hB4.size, fun q hlt => (hq2 q (by omega)).trans (hB4.block q hlt)⟩
 have SB0 : Hid (x2.cell? ⟨w.heap.size + 1, 0, none⟩ = some (.int .i64 CP)) := by show _ = _; rw [hx2]; go_simp
 have SB1 : Hid (x2.cell? ⟨w.heap.size + 1, 1, none⟩ = some (.slice pf l.length cf)) := by show _ = _; rw [hx2]; go_simp
 have SB2 : Hid (x2.cell? ⟨w.heap.size + 1, 2, none⟩ = some (.int .i64 FU)) := by show _ = _; rw [hx2]; go_simp
 have SB3 : Hid (x2.cell? ⟨w.heap.size + 1, 3, none⟩ = some (.bool DN)) := by show _ = _; rw [hx2]; go_simp
 have O0 : Hid (x2.cell? ⟨w.heap.size, 0, none⟩ = some (.int .i64 (j : Int))) := (World.cell?_of_block (a := ⟨w.heap.size, 0, none⟩) (hq2 w.heap.size (by omega))).trans o4
 have FIN : Hid (FilesIn x2 pf l) := by
  have h9 : FilesRow x2 bs w4.heap.size (.slice pf l.length cf) t.K.A := (uh RA).sep (Nat.le_refl _) (S := fun q => q = w.heap.size + 1) (S' := fun q => q = w.heap.size + 1) ⟨by rw [hx2]; rfl, by rw [hx2]; rfl, by rw [hx2]; rfl, by rw [zx2]; exact Nat.le_refl _, fun q _ hn => hq2 q hn, fun q h1 => .inl h1⟩ (fun q h1 => by have h1 : q = w.heap.size + 1 := h1; omega)
  have h8 := files_in h9
  rw [<- uh HLL] at h8
  exact h8
 have PW := hide ((uh HPW).below (uh BX2))
 go_wp2_with fail
 rw [<- hx2]
 clear hx2 hq2 o4 d4 g0 g1 g2 g3 gf o0 o1 p2 d2 hB4
 refine (loosened_ok CP FU DN pf cf l (uh FIN) hlm (uh HBL) (uh PW)).mono ?_
 rintro r w3 ⟨g, c, lv, fv, gr, cr, rfl, hLo, hroom, hb3⟩
 obtain ⟨pl, cl, hlv⟩ := row_form hLo.lr
 subst hlv
 have LO3 := hide hLo
 have RM3 := hide hroom
 have hgr := hroom.lt gr rfl
 have hz3 : x2.heap.size <= w3.heap.size := hb3.size
 have C3 : Hid (Below x2.heap.size x2 w3) := hb3
 obtain ⟨x3, hx3⟩ : ∃ x3, x3 = w3.alloc (.cells #[.int .i64 CP, .slice (some ⟨gr, 0, none⟩) l.length cr, .int .i64 FU, .bool DN] 59) := ⟨_, rfl⟩
 have A3 : Hid (Below w3.heap.size w3 x3) := by rw [hx3]; exact bal (Below.refl _ _) _
 have zx3 : x3.heap.size = w3.heap.size + 1 := by rw [hx3]; simp
 have i0 : x3.cell? ⟨w3.heap.size, 0, none⟩ = some (.int .i64 CP) := by rw [hx3]; simp
 have i1 : x3.cell? ⟨w3.heap.size, 1, none⟩ = some (.slice (some ⟨gr, 0, none⟩) l.length cr) := by rw [hx3]; simp
 have i2 : x3.cell? ⟨w3.heap.size, 2, none⟩ = some (.int .i64 FU) := by rw [hx3]; simp
 have i3 : x3.cell? ⟨w3.heap.size, 3, none⟩ = some (.bool DN) := by rw [hx3]; simp
 have Cx3 : Hid (Below x2.heap.size x2 x3) := (uh C3).trans ((uh A3).mono (uh C3).size)
 have FAP := hide ((lo_files hLo hroom).below (uh A3))
 clear hLo hroom hb3
 go_wp2_with fail
 rw [<- hx3]
 clear hx3
 refine (from_no CP FU DN (some ⟨gr, 0, none⟩) cr l (uh FAP).in (uh HNM) (fun f hf => by have := uh HBL f hf; omega) (uh HV)).mono ?_
 rintro r w4 ⟨rfl, hb4⟩
 have C34 : Hid (Below x3.heap.size x3 w4) := hb4
 have C4 : Hid (Below x2.heap.size x2 w4) := (uh Cx3).trans (hb4.mono (uh Cx3).size)
 have hz4 : x3.heap.size <= w4.heap.size := hb4.size
 have FI4 := hide ((uh FIN).below (uh C4))
 have s0 := keep1 (uh C4) hs2 (uh SB0)
 have s1 := keep1 (uh C4) hs2 (uh SB1)
 have s2 := keep1 (uh C4) hs2 (uh SB2)
 have s3 := keep1 (uh C4) hs2 (uh SB3)
 clear hb4
 go_wp2_with fail
 refine (rfrom_no CP FU DN pf cf l (uh FI4) (by omega) (uh HNM) (fun f hf => by have := uh HBL f hf; omega) (uh HV)).mono ?_
 rintro r w5 ⟨rfl, hb5⟩
 have C45 : Hid (Below w4.heap.size w4 w5) := hb5
 have C5 : Hid (Below x2.heap.size x2 w5) := (uh C4).trans (hb5.mono (uh C4).size)
 have C35 : Hid (Below x3.heap.size x3 w5) := (uh C34).trans (hb5.mono (uh C34).size)
 have hz5 : w4.heap.size <= w5.heap.size := hb5.size
 have s0 := keep1 hb5 (by omega) s0
 have s1 := keep1 hb5 (by omega) s1
 have s2 := keep1 hb5 (by omega) s2
 have s3 := keep1 hb5 (by omega) s3
 have i0 := keep1 (uh C35) (by omega) i0
 have i1 := keep1 (uh C35) (by omega) i1
 have i2 := keep1 (uh C35) (by omega) i2
 have i3 := keep1 (uh C35) (by omega) i3
 have hsm := hide (same_in (w := w5) CP FU DN (some ⟨gr, 0, none⟩) pf cr cf l ((uh FAP).in.below (uh C35)) ((uh FIN).below (uh C5)) hlm)
 clear hb5
 go_wp2_with fail
 refine (num_any _ _).mono ?_
 rintro r wz ⟨rfl, hw⟩
 rw [hw]
 clear hw wz
 go_wp2_with fail
 refine (num_any _ _).mono ?_
 rintro r wz ⟨rfl, hw⟩
 rw [hw]
 clear hw wz
 go_wp2_with fail
 refine (uh hsm).mono ?_
 rintro r w6 ⟨rfl, hb6⟩
 have C56 : Hid (Below w5.heap.size w5 w6) := hb6
 have C6 : Hid (Below x2.heap.size x2 w6) := (uh C5).trans (hb6.mono (uh C5).size)
 have hz6 : w5.heap.size <= w6.heap.size := hb6.size
 have C36 : Hid (Below w3.heap.size w3 w6) := ((uh A3).trans ((uh C35).mono (uh A3).size)).trans (hb6.mono (by omega))
 clear hb6 hsm s0 s1 s2 s3 i0 i1 i2 i3
 go_wp2_with fail
 go_loopw [17, 18] (fun ok u wr => ∃ i : Nat, i <= l.length /\ ok = .bool true /\ u = .int .i64 (i : Int) /\ Below w6.heap.size w6 wr) (fun _ u _ => l.length - (intOf u).toNat)
 case atStart => exact ⟨0, Nat.zero_le _, rfl, rfl, Below.refl _ _⟩
 case round =>
  obtain ⟨i, hi, rfl, rfl, hbr⟩ := hrel
  have HBR := hide hbr
  have CR2 : Hid (Below x2.heap.size x2 wr) := (uh C6).trans (hbr.mono (uh C6).size)
  have CR3 : Hid (Below w3.heap.size w3 wr) := (uh C36).trans (hbr.mono (uh C36).size)
  by_cases hlt : i < l.length
  ·have hne : l ≠ [] := fun e => by rw [e] at hlt; simp at hlt
   obtain ⟨x, hx⟩ : ∃ x, l[i]? = some x := ⟨_, List.getElem?_eq_getElem hlt⟩
   obtain ⟨b, off, hpf, hcell⟩ := uh FIN hne
   obtain ⟨p, cx, _, f1, _, hby⟩ := hcell i x hx
   have hxd : l[i]?.getD default = x := by rw [hx]; rfl
   have hgl : ∃ gl, pl = some ⟨gl, 0, none⟩ := by
    rcases (uh LO3).lr.2 with ⟨_, h2⟩ | ⟨gl, cap, cur, h1, _⟩
    ·omega
    ·injection h1 with h1 _ _; exact ⟨gl, h1⟩
   obtain ⟨gl, hpl⟩ := hgl
   subst hpl hpf
   have l1 : wr.cell? ⟨gl, i, none⟩ = some (.slice (some ⟨g i, 0, none⟩) (x.bs.length + 64) (c i)) := by
    rw [World.cell?_of_block ((uh CR3).block gl ((uh LO3).lr.lt gl rfl).2), (uh LO3).lr.cellAt i (by omega), lcells_get _ _ _ _ _ hlt, hxd]
   have l2 : wr.cell? ⟨w.heap.size + 1, 1, none⟩ = some (.slice (some ⟨b, off, none⟩) l.length cf) := keep1 (uh CR2) hs2 (uh SB1)
   have l3 : wr.cell? ⟨b, off + i * 3 + 1, none⟩ = some (.slice p x.bs.length cx) := keep1 (uh CR2) (World.block_lt_of_cell? x2 _ f1) f1
   have hls := (uh LO3).ls i hlt
   rw [hxd] at hls
   have hkp := hide (Kp.kept_in (w := wr.drew) (hby.below (uh CR2).drew) (uh HBL x (List.mem_of_getElem? hx)) (g i) (c i) (fun k hk => by
    have h9 := (row_far hls (fun q hq => (uh CR3).block q (hls.lt q hq).2)).cellAt k (by omega)
    rw [Kp.bcells_get _ _ _ hk] at h9
    exact h9))
   have hI : (i : Int) < (l.length : Int) := by omega
   have hI0 : (0 : Int) <= (i : Int) := by omega
   clear hbr hne hx hcell f1 hby hxd hls
   go_wp2_with fail
   refine wp_region_last (n := 15) (S := fun W => W.cell? ⟨gl, i, none⟩ = some (.slice (some ⟨g i, 0, none⟩) (x.bs.length + 64) (c i)) /\ W.cell? ⟨w.heap.size + 1, 1, none⟩ = some (.slice (some ⟨b, off, none⟩) l.length cf) /\ W.cell? ⟨b, off + i * 3 + 1, none⟩ = some (.slice p x.bs.length cx)) (by kernel_rfl) (by first | (exact ⟨l1, l2, l3⟩)) (fun hHeld => ?_)
   refine tkW 0 ?_; refine tkW 1 ?_; refine tkW 2 ?_; refine tkW 3 ?_; refine tkW 4 ?_; refine tkN 5 ?_; refine tkW 6 ?_; refine tkN 7 ?_; refine tkW 8 ?_; refine tkW 9 ?_; refine tkW 10 ?_
   refine tkN 11 ?_
   refine wpAnyL_one (i := 12) (by kernel_rfl) rfl (fun KK hK => ?_)
   go_simp
   go_at_call 94
   refine (uh hkp).mono ?_
   rintro r w7 ⟨rfl, m, hw7⟩
   have B7 : Hid (Below wr.heap.size wr w7) := by rw [hw7]; exact ⟨rfl, rfl, rfl, Nat.le_refl _, fun _ _ => rfl⟩
   have l1 : w7.cell? ⟨gl, i, none⟩ = some (.slice (some ⟨g i, 0, none⟩) (x.bs.length + 64) (c i)) := by rw [hw7]; exact l1
   have l2 : w7.cell? ⟨w.heap.size + 1, 1, none⟩ = some (.slice (some ⟨b, off, none⟩) l.length cf) := by rw [hw7]; exact l2
   have l3 : w7.cell? ⟨b, off + i * 3 + 1, none⟩ = some (.slice p x.bs.length cx) := by rw [hw7]; exact l3
   clear hw7
   refine hK.out _ _ (by first | (exact ⟨l1, l2, l3⟩)) (fun hHeld => ?_)
   clear hK KK
   refine tkW 13 ?_; refine tkW 14 ?_
   refine wpAnyL_done (by kernel_rfl) ?_
   go_wp2_with fail
   exact ⟨⟨i + 1, by omega, rfl, by go_num, (uh HBR).trans ((uh B7).mono (uh HBR).size)⟩, by simp [intOf]; omega⟩
  ·have hI : ¬ (i : Int) < (l.length : Int) := by omega
   have hkf := hide (keptf_in (W := wr) (ca := cf) ((uh FIN).below (uh CR2)) (row_far (uh RM3) (fun q hq => (uh CR3).block q ((uh RM3).lt q hq).2)) ((uh PW).below (uh CR2)) hlm)
   have l2 : wr.cell? ⟨w.heap.size + 1, 1, none⟩ = some (.slice pf l.length cf) := keep1 (uh CR2) hs2 (uh SB1)
   have hz7 : w6.heap.size <= wr.heap.size := hbr.size
   clear hbr
   go_wp2_with fail
   refine (uh hkf).mono ?_
   rintro r w8 ⟨rfl, hb8⟩
   have C8 : Hid (Below x2.heap.size x2 w8) := (uh CR2).trans (hb8.mono (uh CR2).size)
   have C38 : Hid (Below w3.heap.size w3 w8) := (uh CR3).trans (hb8.mono (uh CR3).size)
   have C59 : Hid (Below w5.heap.size w5 w8) := ((uh C56).trans ((uh HBR).mono (uh C56).size)).trans (hb8.mono (by omega))
   have hz8 : wr.heap.size <= w8.heap.size := hb8.size
   obtain ⟨X, hX⟩ : ∃ X : Nat -> Prop, X = fun q => (∃ i, i < l.length /\ q = g i) \/ q = gr := ⟨_, rfl⟩
   have hXl : ∀ q, X q -> x2.heap.size <= q /\ q < w3.heap.size := fun q hq => by
    rw [hX] at hq
    rcases hq with ⟨i, hi, e⟩ | e
    ·rw [e]; exact (((uh LO3).ls i hi).lt (g i) rfl)
    ·rw [e]; exact hgr
   have LO8 := hide ((uh LO3).below (uh C38))
   have RM8 := hide (row_far (uh RM3) (fun q hq => (uh C38).block q ((uh RM3).lt q hq).2))
   have hOv : Calls Tryz.prog 96 #[.slice pl l.length cl, .slice (some ⟨gr, 0, none⟩) (l.length + 64) cr] w8 fun e w' => e = .returned (.tuple #[]) /\ Ov w8 w' X := by
    have hgl : ∃ gl, (0 < l.length -> pl = some ⟨gl, 0, none⟩) /\ ¬ X gl /\ ∀ i, i < l.length -> w8.cell? ⟨gl, i, none⟩ = some (.slice (some ⟨g i, 0, none⟩) ((l[i]?.getD default).bs.length + 64) (c i)) := by
     rcases (uh LO8).lr.2 with ⟨_, h2⟩ | ⟨gl, cap, cur, h1, _⟩
     ·exact ⟨w8.heap.size, fun h => by omega, fun h => by have := hXl _ h; omega, fun i hi => by omega⟩
     ·injection h1 with h1 _ _
      refine ⟨gl, fun _ => h1, fun h => ?_, fun i hi => ?_⟩
      ·rw [hX] at h
       rcases h with ⟨i, hi, e⟩ | e
       ·exact rows_apart (uh LO8).lr ((uh LO8).ls i hi) (by decide) (by rw [h1]; rfl) (by rw [e]; rfl)
       ·exact rows_apart (uh LO8).lr (uh RM8) (by decide) (by rw [h1]; rfl) (by rw [e]; rfl)
      ·have h9 := (uh LO8).lr
       rw [h1] at h9
       rw [h9.cellAt i (by omega)]
       exact lcells_get _ _ _ _ _ hi
    obtain ⟨gl, hg1, hg2, hg3⟩ := hgl
    exact over_ok X pl l.length cl gl g (fun i => (l[i]?.getD default).bs.length + 64) c (by omega) hg1 hg2 (fun i hi => ⟨hg3 i hi, by rw [hX]; exact .inl ⟨i, hi, rfl⟩, by have h9 := Live.of_own ((uh LO8).ls i hi); rw [Nat.mul_one] at h9; exact h9, by
     obtain ⟨x, hx⟩ : ∃ x, l[i]? = some x := ⟨_, List.getElem?_eq_getElem hi⟩
     have h9 := uh HBL x (List.mem_of_getElem? hx)
     rw [hx]
     show x.bs.length + 64 <= _
     omega⟩) (some ⟨gr, 0, none⟩) (l.length + 64) cr gr (by omega) (fun _ => ⟨rfl, by rw [hX]; exact .inr rfl⟩) (Live.of_own (uh RM8))
   have HOC := hide hOv
   clear hb8 hkf l2 hOv hX
   go_wp2_with fail
   refine (uh HOC).mono ?_
   rintro r w9 ⟨rfl, hov⟩
   have HOV := hide hov
   have P10 := (((uh HF w8 ((uh BX2).trans ((uh C8).mono (uh BX2).size))).apart hov.sep (fun q hq => uh HFR q (by have h1 := (uh BX2).size; have h2 := (hXl q hq).1; omega))).mono (N' := N + 64) (by omega))
   have x0 : w9.cell? ⟨w.heap.size, 0, none⟩ = some (.int .i64 (j : Int)) := (World.cell?_of_block (a := ⟨w.heap.size, 0, none⟩) (hov.block w.heap.size (fun h => by have := (hXl _ h).1; omega))).trans (keep1 (uh C8) (by omega) (uh O0))
   have yp := P10.p j hj
   have yd := P10.d j hj
   have fz := P10.kb.fz
   have HP := hide (P10.put hj none (fun t ht => by cases ht))
   clear hov P10 HOC
   go_wp2_with fail
   refine wp_region_last (n := 7) (S := fun W => W.cell? ⟨w.heap.size, 0, none⟩ = some (.int .i64 (j : Int))) (by kernel_rfl) (by first | (exact x0)) (fun hHeld => ?_)
   refine tkW 0 ?_; refine tkW 1 ?_; refine tkS 2 ?_; refine tkW 3 ?_; refine tkW 4 ?_; refine tkW 5 ?_; refine tkW 6 ?_
   refine wpAnyL_end (i := 7) (by kernel_rfl) rfl (by kernel_rfl) (by kernel_rfl) (fun KK hK => ?_)
   go_simp
   refine hK.out _ _ ?_
   clear hK KK
   go_wp2_with fail
   refine wp_region_last (n := 7) (S := fun W => W.cell? ⟨w.heap.size, 0, none⟩ = some (.int .i64 (j : Int))) (by kernel_rfl) (by first | (exact (World.cell?_setCell_other w9 _ _ _ (by intro h'; injection h' with h' _ _; omega)).trans x0)) (fun hHeld => ?_)
   refine tkW 0 ?_; refine tkW 1 ?_; refine tkS 2 ?_; refine tkW 3 ?_; refine tkW 4 ?_; refine tkW 5 ?_; refine tkW 6 ?_
   refine wpAnyL_end (i := 7) (by kernel_rfl) rfl (by kernel_rfl) (by kernel_rfl) (fun KK hK => ?_)
   go_simp
   refine hK.out _ _ ?_
   clear hK KK
   go_wp2_with fail
   go_ret
   exact ⟨rfl, _, _, (uh HP).below (Below.refl _ _).drew.drew⟩
theorem ints_front {W : World} {B g c : Nat} {ks : List Int} (hr : W.ownsRow B 3 1 (.slice (some ⟨g, 0, none⟩) (ks.length + 64) c) (ks.length + 64) (Ki.icells (Ki.cat (fun j => ks[j]?.getD 0) ks.length Ki.mI) (ks.length + 64))) : KsAt W (.slice (some ⟨g, 0, none⟩) ks.length c) ks := by
 refine .inr ⟨g, 0, c, rfl, fun j u hj => ?_⟩
 have hj' : j < ks.length := (List.getElem?_eq_some_iff.1 hj).1
 rw [Nat.zero_add, hr.cellAt j (by omega), Ki.icells_get _ _ _ (by omega), Ki.cat_lt hj', hj]
 rfl
theorem ks_lt {W : World} {p : Option Addr} {n c : Nat} {ks : List Int} (h : KsAt W (.slice p n c) ks) (hne : ks ≠ []) {q : Nat} (hq : (Value.slice p n c).ownBlock = some q) : q < W.heap.size := by
 rcases h with ⟨_, h1⟩ | ⟨b, off, c', h1, h2⟩
 ·exact absurd h1 hne
 ·injection h1 with h1 _ _
  subst h1
  obtain ⟨k, ks', rfl⟩ := List.exists_cons_of_ne_nil hne
  have h3 := World.block_lt_of_cell? W _ (h2 0 _ rfl)
  simp only [Value.ownBlock, Option.some.injEq] at hq
  rw [<- hq]
  exact h3
theorem changes_crash {w0 w : World} {y N j : Nat} {T : Nat -> Option Tw} {U : Nat -> Prop} (h : PlayIs w0 w y N T U) (hj : j < 3) {t : Tw} (ht : T j = some t) (hN : N < 800000) (o : OpV) (hd : o.d = (j : Int)) (hk : o.kd = 14) (ho : OpIn w0 o) :
  Calls Tryz.prog 15 #[.pointer (some ⟨y, 0, none⟩), o.val] w fun e w' => e = .returned (.bool true) /\ ∃ T' U', PlayIs w0 w' y (N + 64) T' U' := by
 have hT := h.tw j hj t ht
 have hl := hT.i.many
 have hp1 := h.p j hj
 have hd1 := h.d j hj
 rw [ht] at hp1 hd1
 have hp1 : w.cell? ⟨y, j, none⟩ = some (.pointer (some ⟨t.pb, 0, none⟩)) := hp1
 have hd1 : w.cell? ⟨y, 3 + j, none⟩ = some (.pointer (some ⟨t.rb, 0, none⟩)) := hd1
 have hyl := h.kb.lt
 obtain ⟨w1, hw1⟩ : ∃ w1, w1 = w.alloc (.cells #[.int .i64 (j : Int), .int .i64 14, .string o.nm, .string o.to, .slice o.pu o.b2.length o.cu, .int .i64 o.pos, .int .i64 o.n, .slice o.pk o.ks.length o.ck, .int .i64 o.cp, .slice o.pf o.fs.length o.cf, .int .i64 o.fu, .bool o.dn] 61) := ⟨_, rfl⟩
 have B1 : Hid (Below w.heap.size w w1) := by rw [hw1]; exact bal (Below.refl _ _) _
 have hz1 : w1.heap.size = w.heap.size + 1 := by rw [hw1]; simp
 have e0 : w1.cell? ⟨w.heap.size, 0, none⟩ = some (.int .i64 (j : Int)) := by rw [hw1]; simp
 have e1 : w1.cell? ⟨w.heap.size, 1, none⟩ = some (.int .i64 14) := by rw [hw1]; simp
 have b7 : w1.cell? ⟨w.heap.size, 7, none⟩ = some (.slice o.pk o.ks.length o.ck) := by rw [hw1]; simp
 have p1 : w1.cell? ⟨y, j, none⟩ = some (.pointer (some ⟨t.pb, 0, none⟩)) := keep1 (uh B1) hyl hp1
 have d1 : w1.cell? ⟨y, 3 + j, none⟩ = some (.pointer (some ⟨t.rb, 0, none⟩)) := keep1 (uh B1) hyl hd1
 have hbox : ¬ t.S w.heap.size := fun e => by have := hT.p.sl _ e; omega
 have hboxV : ¬ t.V w.heap.size := fun e => by have := hT.r.sl _ e; omega
 have hB0 : ∀ W, Below w.heap.size w W -> Below w0.heap.size w0 W := fun W hb => h.bl.trans (hb.mono h.bl.size)
 have HRM : Hid (Calls Tryz.prog 107 #[.slice o.pk o.ks.length o.ck] w1.drew.drew fun e w' => Ki.RoomOut (fun j => o.ks[j]?.getD 0) o.ks.length w1.drew.drew e w') := Ki.room_in ho.kn ((ho.below (hB0 _ (uh B1).drew.drew)).ks) ho.kl
 have HA : Hid (∀ w2, Below w1.heap.size w1 w2 -> ∀ g c, w2.ownsRow w1.heap.size 3 1 (.slice (some ⟨g, 0, none⟩) (o.ks.length + 64) c) (o.ks.length + 64) (Ki.icells (Ki.cat (fun j => o.ks[j]?.getD 0) o.ks.length Ki.mI) (o.ks.length + 64)) -> Calls Tryz.prog 42 #[.pointer (some ⟨t.pb, 0, none⟩), .slice (some ⟨g, 0, none⟩) o.ks.length c] w2 fun e w3 => (∃ r, e = .returned r) /\ ∃ S3, DiskOK w3 t.pb (N + t.K.A.length) (crashK o.ks t.K) S3 /\ Sep w2 w3 t.S S3) := fun w2 hb g c hr => by
  have hD := hT.p.below ((uh B1).trans (hb.mono (uh B1).size))
  have hg := hr.lt g rfl
  refine crash_ok hD (by omega) hT.i (some ⟨g, 0, none⟩) c o.ks (ints_front hr) (fun q hq e => ?_) (by have := ho.kl; omega)
  injection hq with hq
  have hq : g = q := hq
  have := hT.p.sl q e
  omega
 have HR : Hid (∀ w2, Below w1.heap.size w1 w2 -> ∀ w3 S3, Sep w2 w3 t.S S3 -> Calls Tryz.prog 108 #[.pointer (some ⟨t.rb, 0, none⟩), .slice o.pk o.ks.length o.ck] w3 fun e w4 => (∃ r, e = .returned r) /\ ∃ V4, RefOK w4 t.rb (crashK o.ks t.K) V4 /\ Sep w3 w4 t.V V4) := fun w2 hb w3 S3 hs' => by
  have hb2 : Below w.heap.size w w2 := (uh B1).trans (hb.mono (uh B1).size)
  have hR := (hT.r.below hb2).sep hs' (fun q hq e => hT.a q e hq)
  have hks := (ho.below ((hB0 _ hb2).trans (hs'.below (fun q hq => h.tl j hj t ht q (.inl hq)) (hB0 _ hb2).size))).ks
  refine rcrash_ok hR hT.i o.pk o.ck o.ks hks (fun hne q hq e => ?_) (by have := ho.kl; omega)
  have h9 := h.tl j hj t ht q (.inr e)
  have h8 := ks_lt (ho.ks hne) hne hq
  omega
 have HF : Hid (∀ w2, Below w1.heap.size w1 w2 -> ∀ w3 S3, DiskOK w3 t.pb (N + t.K.A.length) (crashK o.ks t.K) S3 -> Sep w2 w3 t.S S3 -> ∀ w4 V4, RefOK w4 t.rb (crashK o.ks t.K) V4 -> Sep w3 w4 t.V V4 -> ∀ w5, Below w4.heap.size w4 w5 -> ∃ T' U', PlayIs w0 w5 y (N + 64) T' U') := fun w2 hb w3 S3 hd3 hs3 w4 V4 hd4 hs4 w5 hb5 =>
  ⟨_, U, (((h.pair hj ht ((uh B1).trans (hb.mono (uh B1).size)) hd3 hs3 hd4 hs4 (hT.i.crash o.ks) (by omega)).below hb5)).mono (by omega)⟩
 have HKS : Hid (∀ W, Below w0.heap.size w0 W -> o.ks ≠ [] -> KsAt W (.slice o.pk o.ks.length o.ck) o.ks) := fun W hb => (ho.below hb).ks
 have HB0 := hide hB0
 have HTL := hide (h.tl j hj t ht)
 have HBS := hide hbox
 have HBV := hide hboxV
 have HGS : Hid (∀ g, w1.heap.size <= g -> ¬ t.S g /\ ¬ t.V g) := fun g hg => ⟨fun e => by have := hT.p.sl _ e; omega, fun e => by have := hT.r.sl _ e; omega⟩
 have hkl := ho.kl
 have hjI : (0 : Int) <= (j : Int) := by omega
 have hjI3 : (j : Int) < 3 := by omega
 unfold OpV.val
 rw [hd, hk]
 clear h hT hl hp1 hd1 ht hd hk ho hbox hboxV hB0
 go_enter Tryz.func15, Tryz.ntmps15
 go_wp2_with fail
 rw [<- hw1]
 clear hw1
 refine wp_region_last (n := 8) (S := fun W => W.cell? ⟨w.heap.size, 0, none⟩ = some (.int .i64 (j : Int)) /\ W.cell? ⟨y, j, none⟩ = some (.pointer (some ⟨t.pb, 0, none⟩))) (by kernel_rfl) (by first | (exact ⟨e0, p1⟩)) (fun hHeld => ?_)
 refine tkW 0 ?_; refine tkW 1 ?_; refine tkN 2 ?_; refine tkW 3 ?_; refine tkW 4 ?_; refine tkW 5 ?_; refine tkN 6 ?_; refine tkW 7 ?_
 refine wpAnyL_done (by kernel_rfl) ?_
 go_wp2_with fail
 refine wp_region_last (n := 8) (S := fun W => W.cell? ⟨w.heap.size, 0, none⟩ = some (.int .i64 (j : Int)) /\ W.cell? ⟨y, 3 + j, none⟩ = some (.pointer (some ⟨t.rb, 0, none⟩))) (by kernel_rfl) (by first | (exact ⟨e0, d1⟩)) (fun hHeld => ?_)
 refine tkW 0 ?_; refine tkW 1 ?_; refine tkN 2 ?_; refine tkW 3 ?_; refine tkW 4 ?_; refine tkW 5 ?_; refine tkN 6 ?_; refine tkW 7 ?_
 refine wpAnyL_done (by kernel_rfl) ?_
 go_wp2_with fail
 refine (uh HRM).mono ?_
 rintro r w2 ⟨g, c, rfl, hown2, hb2⟩
 have B2 : Hid (Below w1.heap.size w1 w2) := ⟨hb2.os, hb2.tape, hb2.output, hb2.size, hb2.block⟩
 have O2 : Hid (w2.ownsRow w1.heap.size 3 1 (.slice (some ⟨g, 0, none⟩) (o.ks.length + 64) c) (o.ks.length + 64) (Ki.icells (Ki.cat (fun j => o.ks[j]?.getD 0) o.ks.length Ki.mI) (o.ks.length + 64))) := hown2
 have hgl := hown2.lt g rfl
 have hcap : o.ks.length + 64 <= c := by
  rcases hown2.2 with ⟨h1, _⟩ | ⟨g1, cap1, cur, h1, _, _, h2, _⟩
  ·cases h1
  ·injection h1 with _ _ h3
   omega
 have m7 := keep1 (uh B2) (by show w.heap.size < w1.heap.size; omega) b7
 have hI1 : (0 : Int) <= (o.ks.length : Int) := by omega
 have hI2 : (o.ks.length : Int) <= (c : Int) := by omega
 have hI3 : o.ks.length <= c := by omega
 have hg1 : w1.heap.size <= g := hgl.1
 have hg2 : g < w2.heap.size := hgl.2
 have hz2 : w1.heap.size <= w2.heap.size := hb2.size
 clear hown2 hb2 hgl HRM b7 p1 d1 e0 e1
 go_wp2_with fail
 refine (uh HA w2 (uh B2) g c (uh O2)).mono ?_
 rintro r w3 ⟨⟨r3, rfl⟩, S3, hd3, hs3⟩
 have D3 := hide hd3
 have Q3 := hide hs3
 have n7 := (World.cell?_of_block (a := ⟨w.heap.size, 7, none⟩) (hs3.block w.heap.size (by show w.heap.size < w2.heap.size; omega) (uh HBS))).trans m7
 clear hd3 hs3 m7
 go_wp2_with fail
 refine (uh HR w2 (uh B2) w3 S3 (uh Q3)).mono ?_
 rintro r w4 ⟨⟨r4, rfl⟩, V4, hd4, hs4⟩
 have D4 := hide hd4
 have Q4 := hide hs4
 have hz3 : w2.heap.size <= w3.heap.size := (uh Q3).size
 have k7 := (World.cell?_of_block (a := ⟨w.heap.size, 7, none⟩) (hs4.block w.heap.size (by show w.heap.size < w3.heap.size; omega) (uh HBV))).trans n7
 have hBa := uh HB0 w2 ((uh B1).trans ((uh B2).mono (uh B1).size))
 have B4 : Hid (Below w0.heap.size w0 w4) := (hBa.trans ((uh Q3).below (fun q hq => uh HTL q (.inl hq)) hBa.size)).trans (hs4.below (fun q hq => uh HTL q (.inr hq)) (Nat.le_trans hBa.size (uh Q3).size))
 have O4 : Hid (w4.ownsRow w1.heap.size 3 1 (.slice (some ⟨g, 0, none⟩) (o.ks.length + 64) c) (o.ks.length + 64) (Ki.icells (Ki.cat (fun j => o.ks[j]?.getD 0) o.ks.length Ki.mI) (o.ks.length + 64))) := row_far (uh O2) (fun q hq => by injection hq with hq; have hq : g = q := hq; rw [<- hq]; exact (hs4.block g (by omega) (uh HGS g hg1).2).trans ((uh Q3).block g hg2 (uh HGS g hg1).1))
 have hkp := hide (Ki.kept_in (uh HKS w4 (uh B4)) hkl g c (fun k hk => by rw [(uh O4).cellAt k (by omega)]; exact Ki.icells_get _ _ _ hk))
 clear hd4 hs4 n7 hBa
 go_wp2_with fail
 refine (uh hkp).mono ?_
 rintro r w5 ⟨rfl, m, hw5⟩
 have B5 : Hid (Below w4.heap.size w4 w5) := by rw [hw5]; exact ⟨rfl, rfl, rfl, Nat.le_refl _, fun _ _ => rfl⟩
 clear hw5 hkp
 go_wp2_with fail
 go_ret
 exact ⟨rfl, uh HF w2 (uh B2) w3 S3 (uh D3) (uh Q3) w4 V4 (uh D4) (uh Q4) w5 (uh B5)⟩
end Go.Proofs.YtpeohbkigkfcgabGreatDoor
