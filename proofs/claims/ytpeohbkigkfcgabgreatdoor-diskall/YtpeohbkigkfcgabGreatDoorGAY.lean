import Derived.Test.YtpeohbkigkfcgabGreatDoorGAX
import Derived.Test.YtpeohbkigkfcgabGreatDoorGAN
set_option linter.unusedVariables false
set_option linter.unusedSimpArgs false
set_option maxRecDepth 100000
set_option maxHeartbeats 16000000
namespace Go.Proofs.YtpeohbkigkfcgabGreatDoor
open Go Go.ChangeShapes Go.WideShapes Go.ChangeAt Go.RowKit
attribute [local go_sem] setCell_drewN alloc_drewN
theorem PlayIs.kwB {w0 w : World} {y N : Nat} {T : Nat -> Option Tw} {U : Nat -> Prop} (h : PlayIs w0 w y N T U) {La Lb : Value} {n : Nat} {fa fb : Nat -> Nat} (oa : w.ownsRow 0 5 1 La n (Kp.bcells fa n)) (ob : w.ownsRow 0 5 1 Lb n (Kp.bcells fb n)) (hn : n <= 1048576) (hab : ∀ q, La.ownBlock = some q -> Lb.ownBlock ≠ some q)
  (ha : ∀ q, La.ownBlock = some q -> w0.heap.size <= q /\ q ≠ y /\ ¬ U q /\ ∀ i, i < 3 -> ∀ t, T i = some t -> ¬ t.fp q) (hb : ∀ q, Lb.ownBlock = some q -> w0.heap.size <= q /\ q ≠ y /\ ¬ U q /\ ∀ i, i < 3 -> ∀ t, T i = some t -> ¬ t.fp q) :
  Calls Tryz.prog 111 #[.pointer (some ⟨y, 6, none⟩), La] w fun e w' => e = .returned (.tuple #[]) /\ Calls Tryz.prog 112 #[.pointer (some ⟨y, 6, none⟩), Lb] w' fun e w'' => e = .returned (.tuple #[]) /\ ∃ U'', PlayIs w0 w'' y N T U'' := by
 have hz := h.z0
 refine (h.kb.keepB oa hn (fun q hq => ⟨(ha q hq).2.1, by have := (ha q hq).1; omega, (ha q hq).2.2.1⟩)).mono ?_
 rintro e w' ⟨rfl, U', hk, hT⟩
 have h1 := h.tookL hT hk (fun q hq => (ha q hq).1) (fun q hq => (ha q hq).2.2.2)
 have hbU : ∀ q, Lb.ownBlock = some q -> ¬ U' q := fun q hq hU => by
  rcases hT.new q hU with e | e | e
  ·exact (hb q hq).2.2.1 e
  ·exact hab q e hq
  ·have := (ob.lt q hq).2; omega
 refine ⟨rfl, (h1.kb.writeB (row_far ob (fun q hq => hT.block q (ob.lt q hq).2 (hb q hq).2.1 (hb q hq).2.2.1 (fun e => hab q e hq))) hn (fun q hq => ⟨(hb q hq).2.1, by have := (hb q hq).1; omega, hbU q hq⟩)).mono ?_⟩
 rintro e w'' ⟨rfl, U'', hk2, hT2⟩
 exact ⟨rfl, U'', h1.tookL hT2 hk2 (fun q hq => (hb q hq).1) (fun q hq => (hb q hq).2.2.2)⟩
theorem PlayIs.kwT {w0 w : World} {y N : Nat} {T : Nat -> Option Tw} {U : Nat -> Prop} (h : PlayIs w0 w y N T U) {La Lb : Value} {n : Nat} {fa fb : Nat -> ByteArray} (oa : w.ownsRow 0 9 1 La n (Kt.scells fa n)) (ob : w.ownsRow 0 9 1 Lb n (Kt.scells fb n)) (hn : n <= 4096) (hab : ∀ q, La.ownBlock = some q -> Lb.ownBlock ≠ some q)
  (ha : ∀ q, La.ownBlock = some q -> w0.heap.size <= q /\ q ≠ y /\ ¬ U q /\ ∀ i, i < 3 -> ∀ t, T i = some t -> ¬ t.fp q) (hb : ∀ q, Lb.ownBlock = some q -> w0.heap.size <= q /\ q ≠ y /\ ¬ U q /\ ∀ i, i < 3 -> ∀ t, T i = some t -> ¬ t.fp q) :
  Calls Tryz.prog 117 #[.pointer (some ⟨y, 6, none⟩), La] w fun e w' => e = .returned (.tuple #[]) /\ Calls Tryz.prog 118 #[.pointer (some ⟨y, 6, none⟩), Lb] w' fun e w'' => e = .returned (.tuple #[]) /\ ∃ U'', PlayIs w0 w'' y N T U'' := by
 have hz := h.z0
 refine (h.kb.keepT oa hn (fun q hq => ⟨(ha q hq).2.1, by have := (ha q hq).1; omega, (ha q hq).2.2.1⟩)).mono ?_
 rintro e w' ⟨rfl, U', hk, hT⟩
 have h1 := h.tookL hT hk (fun q hq => (ha q hq).1) (fun q hq => (ha q hq).2.2.2)
 have hbU : ∀ q, Lb.ownBlock = some q -> ¬ U' q := fun q hq hU => by
  rcases hT.new q hU with e | e | e
  ·exact (hb q hq).2.2.1 e
  ·exact hab q e hq
  ·have := (ob.lt q hq).2; omega
 refine ⟨rfl, (h1.kb.writeT (row_far ob (fun q hq => hT.block q (ob.lt q hq).2 (hb q hq).2.1 (hb q hq).2.2.1 (fun e => hab q e hq))) hn (fun q hq => ⟨(hb q hq).2.1, by have := (hb q hq).1; omega, hbU q hq⟩)).mono ?_⟩
 rintro e w'' ⟨rfl, U'', hk2, hT2⟩
 exact ⟨rfl, U'', h1.tookL hT2 hk2 (fun q hq => (hb q hq).1) (fun q hq => (hb q hq).2.2.2)⟩
theorem looks_size {w0 w : World} {y N j : Nat} {T : Nat -> Option Tw} {U : Nat -> Prop} (h : PlayIs w0 w y N T U) (hj : j < 3) {t : Tw} (ht : T j = some t) (hN : N < 800000) (o : OpV) (hd : o.d = (j : Int)) (hk : o.kd = 9) (ho : OpIn w0 o) :
  Calls Tryz.prog 16 #[.pointer (some ⟨y, 0, none⟩), o.val] w fun e w' => e = .returned (.bool true) /\ ∃ T' U', PlayIs w0 w' y (N + 64) T' U' := by
 have hT := h.tw j hj t ht
 have hs : o.nm.size <= maxLen := by have := ho.nm; unfold maxLen; omega
 have hp1 := h.p j hj
 have hd1 := h.d j hj
 rw [ht] at hp1 hd1
 have hp1 : w.cell? ⟨y, j, none⟩ = some (.pointer (some ⟨t.pb, 0, none⟩)) := hp1
 have hd1 : w.cell? ⟨y, 3 + j, none⟩ = some (.pointer (some ⟨t.rb, 0, none⟩)) := hd1
 have hyl := h.kb.lt
 have hyw : w0.heap.size <= y := h.yl
 obtain ⟨w1, hw1⟩ : ∃ w1, w1 = w.alloc (.cells #[.int .i64 (j : Int), .int .i64 9, .string o.nm, .string o.to, .slice o.pu o.b2.length o.cu, .int .i64 o.pos, .int .i64 o.n, .slice o.pk o.ks.length o.ck, .int .i64 o.cp, .slice o.pf o.fs.length o.cf, .int .i64 o.fu, .bool o.dn] 61) := ⟨_, rfl⟩
 have B1 : Hid (Below w.heap.size w w1) := by rw [hw1]; exact bal (Below.refl _ _) _
 have hz1 : w1.heap.size = w.heap.size + 1 := by rw [hw1]; simp
 have e0 : w1.cell? ⟨w.heap.size, 0, none⟩ = some (.int .i64 (j : Int)) := by rw [hw1]; simp
 have e1 : w1.cell? ⟨w.heap.size, 1, none⟩ = some (.int .i64 9) := by rw [hw1]; simp
 have b2 : w1.cell? ⟨w.heap.size, 2, none⟩ = some (.string o.nm) := by rw [hw1]; simp
 have p1 : w1.cell? ⟨y, j, none⟩ = some (.pointer (some ⟨t.pb, 0, none⟩)) := keep1 (uh B1) hyl hp1
 have d1 : w1.cell? ⟨y, 3 + j, none⟩ = some (.pointer (some ⟨t.rb, 0, none⟩)) := keep1 (uh B1) hyl hd1
 have B1d : Hid (Below w.heap.size w w1.drew.drew) := (uh B1).drew.drew
 have HF : Hid (∀ W, Below w.heap.size w W -> PlayIs w0 W y N T U) := fun W hb => h.below hb
 have HFR : Hid (∀ q, w.heap.size <= q -> w0.heap.size <= q /\ q ≠ y /\ ¬ U q /\ ∀ i, i < 3 -> ∀ t, T i = some t -> ¬ t.fp q) := fun q hq => ⟨Nat.le_trans h.bl.size hq, by omega, fun e => by have := (h.kb.ul q e).2.2; omega, fun i hi t ht e => by have := (h.tw i hi t ht).lt e; omega⟩
 have HA : Hid (Calls Tryz.prog 113 #[.pointer (some ⟨t.pb, 0, none⟩), .string o.nm] w1.drew.drew fun e w2 => e = .returned (.tuple #[.int .i64 (sizeK o.nm t.K).1, .int .i64 (sizeK o.nm t.K).2]) /\ Below w1.drew.drew.heap.size w1.drew.drew w2) := by
  obtain ⟨mo, n, es, hD⟩ := hT.p.below (uh B1d)
  exact size_ok hD o.nm hs
 have HR : Hid (∀ w2, Below w.heap.size w w2 -> Calls Tryz.prog 114 #[.pointer (some ⟨t.rb, 0, none⟩), .string o.nm] w2 fun e w3 => e = .returned (.tuple #[.int .i64 (sizeK o.nm t.K).1, .int .i64 (sizeK o.nm t.K).2]) /\ w3 = w2) := fun w2 hb => rsize_ok (hT.r.below hb) hT.i.many o.nm ho.nm
 obtain ⟨X, hX⟩ : ∃ X : Int, X = (sizeK o.nm t.K).1 := ⟨_, rfl⟩
 obtain ⟨Y, hY⟩ : ∃ Y : Int, Y = (sizeK o.nm t.K).2 := ⟨_, rfl⟩
 rw [<- hX, <- hY] at HA HR
 clear hX hY
 have hjI : (0 : Int) <= (j : Int) := by omega
 have hjI3 : (j : Int) < 3 := by omega
 unfold OpV.val
 rw [hd, hk]
 clear h hT hs hp1 hd1 ht hd hk ho
 go_enter Tryz.func16, Tryz.ntmps16
 go_wp2_with fail
 rw [<- hw1]
 clear hw1
 refine wp_region_last (n := 8) (S := fun W => W.cell? ⟨w.heap.size, 0, none⟩ = some (.int .i64 (j : Int)) /\ W.cell? ⟨y, j, none⟩ = some (.pointer (some ⟨t.pb, 0, none⟩))) (by kernel_rfl) (by first | (exact ⟨e0, p1⟩)) (fun hHeld => ?_)
 refine tkW 0 ?_; refine tkW 1 ?_; refine tkN 2 ?_; refine tkW 3 ?_; refine tkW 4 ?_; refine tkW 5 ?_; refine tkN 6 ?_; refine tkW 7 ?_
 refine wpAnyL_done (by kernel_rfl) ?_
 go_wp2_with fail
 refine wp_region_last (n := 8) (S := fun W => W.cell? ⟨w.heap.size, 0, none⟩ = some (.int .i64 (j : Int)) /\ W.cell? ⟨y, 3 + j, none⟩ = some (.pointer (some ⟨t.rb, 0, none⟩))) (by kernel_rfl) (by first | (exact ⟨e0, d1⟩)) (fun hHeld => ?_)
 refine tkW 0 ?_; refine tkW 1 ?_; refine tkN 2 ?_; refine tkW 3 ?_; refine tkW 4 ?_; refine tkW 5 ?_; refine tkN 6 ?_; refine tkW 7 ?_
 refine wpAnyL_done (by kernel_rfl) ?_
 go_wp2_with fail
 refine (uh HA).mono ?_
 rintro r w2 ⟨rfl, hb⟩
 have B2 : Hid (Below w.heap.size w w2) := (uh B1d).trans (hb.mono (uh B1d).size)
 have m2 : w2.cell? ⟨w.heap.size, 2, none⟩ = some (.string o.nm) := keep1 hb (by show w.heap.size < w1.heap.size; omega) b2
 clear hb e0 e1 p1 d1 b2
 go_wp2_with fail
 refine (uh HR w2 (uh B2)).mono ?_
 rintro r w3 ⟨rfl, hw⟩
 rw [hw]
 clear hw w3
 go_wp2_with fail
 refine (num_any _ _).mono ?_
 rintro r wz ⟨rfl, hw⟩
 rw [hw]
 clear hw wz
 go_wp2_with fail
 refine (num_any _ _).mono ?_
 rintro r wz ⟨rfl, hw⟩
 rw [hw]
 clear hw wz
 go_wp2_with fail
 go_ret
 exact ⟨rfl, T, U, (uh HF w2 (uh B2)).mono (by omega)⟩
theorem looks_free {w0 w : World} {y N j : Nat} {T : Nat -> Option Tw} {U : Nat -> Prop} (h : PlayIs w0 w y N T U) (hj : j < 3) {t : Tw} (ht : T j = some t) (hN : N < 800000) (o : OpV) (hd : o.d = (j : Int)) (hk : o.kd = 11) (ho : OpIn w0 o) :
  Calls Tryz.prog 16 #[.pointer (some ⟨y, 0, none⟩), o.val] w fun e w' => e = .returned (.bool true) /\ ∃ T' U', PlayIs w0 w' y (N + 64) T' U' := by
 have hT := h.tw j hj t ht
 have hs : o.nm.size <= maxLen := by have := ho.nm; unfold maxLen; omega
 have hp1 := h.p j hj
 have hd1 := h.d j hj
 rw [ht] at hp1 hd1
 have hp1 : w.cell? ⟨y, j, none⟩ = some (.pointer (some ⟨t.pb, 0, none⟩)) := hp1
 have hd1 : w.cell? ⟨y, 3 + j, none⟩ = some (.pointer (some ⟨t.rb, 0, none⟩)) := hd1
 have hyl := h.kb.lt
 have hyw : w0.heap.size <= y := h.yl
 obtain ⟨w1, hw1⟩ : ∃ w1, w1 = w.alloc (.cells #[.int .i64 (j : Int), .int .i64 11, .string o.nm, .string o.to, .slice o.pu o.b2.length o.cu, .int .i64 o.pos, .int .i64 o.n, .slice o.pk o.ks.length o.ck, .int .i64 o.cp, .slice o.pf o.fs.length o.cf, .int .i64 o.fu, .bool o.dn] 61) := ⟨_, rfl⟩
 have B1 : Hid (Below w.heap.size w w1) := by rw [hw1]; exact bal (Below.refl _ _) _
 have hz1 : w1.heap.size = w.heap.size + 1 := by rw [hw1]; simp
 have e0 : w1.cell? ⟨w.heap.size, 0, none⟩ = some (.int .i64 (j : Int)) := by rw [hw1]; simp
 have e1 : w1.cell? ⟨w.heap.size, 1, none⟩ = some (.int .i64 11) := by rw [hw1]; simp
 have p1 : w1.cell? ⟨y, j, none⟩ = some (.pointer (some ⟨t.pb, 0, none⟩)) := keep1 (uh B1) hyl hp1
 have d1 : w1.cell? ⟨y, 3 + j, none⟩ = some (.pointer (some ⟨t.rb, 0, none⟩)) := keep1 (uh B1) hyl hd1
 have B1d : Hid (Below w.heap.size w w1.drew.drew) := (uh B1).drew.drew
 have HF : Hid (∀ W, Below w.heap.size w W -> PlayIs w0 W y N T U) := fun W hb => h.below hb
 have HFR : Hid (∀ q, w.heap.size <= q -> w0.heap.size <= q /\ q ≠ y /\ ¬ U q /\ ∀ i, i < 3 -> ∀ t, T i = some t -> ¬ t.fp q) := fun q hq => ⟨Nat.le_trans h.bl.size hq, by omega, fun e => by have := (h.kb.ul q e).2.2; omega, fun i hi t ht e => by have := (h.tw i hi t ht).lt e; omega⟩
 have HA : Hid (Calls Tryz.prog 45 #[.pointer (some ⟨t.pb, 0, none⟩)] w1.drew.drew fun e w2 => e = .returned (.int .i64 (t.K.cap - (totF t.K.A : Int))) /\ Below w1.drew.drew.heap.size w1.drew.drew w2) := by
  obtain ⟨mo, n, es, hD⟩ := hT.p.below (uh B1d)
  exact free_ok hD hT.i.cap1 hT.c0 hT.tt
 have HR : Hid (∀ w2, Below w.heap.size w w2 -> Calls Tryz.prog 119 #[.pointer (some ⟨t.rb, 0, none⟩)] w2 fun e w3 => e = .returned (.int .i64 (t.K.cap - (totF t.K.A : Int))) /\ Below w2.heap.size w2 w3) := fun w2 hb => rfree_ok (hT.r.below hb) hT.i.many hT.i.cap1 hT.c0 hT.tt
 obtain ⟨X, hX⟩ : ∃ X : Int, X = t.K.cap - (totF t.K.A : Int) := ⟨_, rfl⟩
 rw [<- hX] at HA HR
 clear hX
 have hjI : (0 : Int) <= (j : Int) := by omega
 have hjI3 : (j : Int) < 3 := by omega
 unfold OpV.val
 rw [hd, hk]
 clear h hT hs hp1 hd1 ht hd hk ho
 go_enter Tryz.func16, Tryz.ntmps16
 go_wp2_with fail
 rw [<- hw1]
 clear hw1
 refine wp_region_last (n := 8) (S := fun W => W.cell? ⟨w.heap.size, 0, none⟩ = some (.int .i64 (j : Int)) /\ W.cell? ⟨y, j, none⟩ = some (.pointer (some ⟨t.pb, 0, none⟩))) (by kernel_rfl) (by first | (exact ⟨e0, p1⟩)) (fun hHeld => ?_)
 refine tkW 0 ?_; refine tkW 1 ?_; refine tkN 2 ?_; refine tkW 3 ?_; refine tkW 4 ?_; refine tkW 5 ?_; refine tkN 6 ?_; refine tkW 7 ?_
 refine wpAnyL_done (by kernel_rfl) ?_
 go_wp2_with fail
 refine wp_region_last (n := 8) (S := fun W => W.cell? ⟨w.heap.size, 0, none⟩ = some (.int .i64 (j : Int)) /\ W.cell? ⟨y, 3 + j, none⟩ = some (.pointer (some ⟨t.rb, 0, none⟩))) (by kernel_rfl) (by first | (exact ⟨e0, d1⟩)) (fun hHeld => ?_)
 refine tkW 0 ?_; refine tkW 1 ?_; refine tkN 2 ?_; refine tkW 3 ?_; refine tkW 4 ?_; refine tkW 5 ?_; refine tkN 6 ?_; refine tkW 7 ?_
 refine wpAnyL_done (by kernel_rfl) ?_
 go_wp2_with fail
 refine (uh HA).mono ?_
 rintro r w2 ⟨rfl, hb⟩
 have B2 : Hid (Below w.heap.size w w2) := (uh B1d).trans (hb.mono (uh B1d).size)
 clear hb e0 e1 p1 d1
 go_wp2_with fail
 refine (uh HR w2 (uh B2)).mono ?_
 rintro r w3 ⟨rfl, hb⟩
 have B3 : Hid (Below w.heap.size w w3) := (uh B2).trans (hb.mono (uh B2).size)
 clear hb
 go_wp2_with fail
 go_ret
 exact ⟨rfl, T, U, (uh HF w3 (uh B3)).mono (by omega)⟩
theorem looks_down {w0 w : World} {y N j : Nat} {T : Nat -> Option Tw} {U : Nat -> Prop} (h : PlayIs w0 w y N T U) (hj : j < 3) {t : Tw} (ht : T j = some t) (hN : N < 800000) (o : OpV) (hd : o.d = (j : Int)) (hk : o.kd = 13) (ho : OpIn w0 o) :
  Calls Tryz.prog 16 #[.pointer (some ⟨y, 0, none⟩), o.val] w fun e w' => e = .returned (.bool true) /\ ∃ T' U', PlayIs w0 w' y (N + 64) T' U' := by
 have hT := h.tw j hj t ht
 have hs : o.nm.size <= maxLen := by have := ho.nm; unfold maxLen; omega
 have hp1 := h.p j hj
 have hd1 := h.d j hj
 rw [ht] at hp1 hd1
 have hp1 : w.cell? ⟨y, j, none⟩ = some (.pointer (some ⟨t.pb, 0, none⟩)) := hp1
 have hd1 : w.cell? ⟨y, 3 + j, none⟩ = some (.pointer (some ⟨t.rb, 0, none⟩)) := hd1
 have hyl := h.kb.lt
 have hyw : w0.heap.size <= y := h.yl
 obtain ⟨w1, hw1⟩ : ∃ w1, w1 = w.alloc (.cells #[.int .i64 (j : Int), .int .i64 13, .string o.nm, .string o.to, .slice o.pu o.b2.length o.cu, .int .i64 o.pos, .int .i64 o.n, .slice o.pk o.ks.length o.ck, .int .i64 o.cp, .slice o.pf o.fs.length o.cf, .int .i64 o.fu, .bool o.dn] 61) := ⟨_, rfl⟩
 have B1 : Hid (Below w.heap.size w w1) := by rw [hw1]; exact bal (Below.refl _ _) _
 have hz1 : w1.heap.size = w.heap.size + 1 := by rw [hw1]; simp
 have e0 : w1.cell? ⟨w.heap.size, 0, none⟩ = some (.int .i64 (j : Int)) := by rw [hw1]; simp
 have e1 : w1.cell? ⟨w.heap.size, 1, none⟩ = some (.int .i64 13) := by rw [hw1]; simp
 have p1 : w1.cell? ⟨y, j, none⟩ = some (.pointer (some ⟨t.pb, 0, none⟩)) := keep1 (uh B1) hyl hp1
 have d1 : w1.cell? ⟨y, 3 + j, none⟩ = some (.pointer (some ⟨t.rb, 0, none⟩)) := keep1 (uh B1) hyl hd1
 have B1d : Hid (Below w.heap.size w w1.drew.drew) := (uh B1).drew.drew
 have HF : Hid (∀ W, Below w.heap.size w W -> PlayIs w0 W y N T U) := fun W hb => h.below hb
 have HFR : Hid (∀ q, w.heap.size <= q -> w0.heap.size <= q /\ q ≠ y /\ ¬ U q /\ ∀ i, i < 3 -> ∀ t, T i = some t -> ¬ t.fp q) := fun q hq => ⟨Nat.le_trans h.bl.size hq, by omega, fun e => by have := (h.kb.ul q e).2.2; omega, fun i hi t ht e => by have := (h.tw i hi t ht).lt e; omega⟩
 have HA : Hid (Calls Tryz.prog 46 #[.pointer (some ⟨t.pb, 0, none⟩)] w1.drew.drew fun e w2 => e = .returned (.bool t.K.down) /\ w2 = w1.drew.drew) := by
  obtain ⟨mo, n, es, hD⟩ := hT.p.below (uh B1d)
  exact down_ok hD
 have HR : Hid (Calls Tryz.prog 120 #[.pointer (some ⟨t.rb, 0, none⟩)] w1.drew.drew fun e w3 => e = .returned (.bool t.K.down) /\ w3 = w1.drew.drew) := rdown_ok (hT.r.below (uh B1d))
 obtain ⟨X, hX⟩ : ∃ X : Bool, X = t.K.down := ⟨_, rfl⟩
 rw [<- hX] at HA HR
 clear hX
 have hjI : (0 : Int) <= (j : Int) := by omega
 have hjI3 : (j : Int) < 3 := by omega
 unfold OpV.val
 rw [hd, hk]
 clear h hT hs hp1 hd1 ht hd hk ho
 go_enter Tryz.func16, Tryz.ntmps16
 go_wp2_with fail
 rw [<- hw1]
 clear hw1
 refine wp_region_last (n := 8) (S := fun W => W.cell? ⟨w.heap.size, 0, none⟩ = some (.int .i64 (j : Int)) /\ W.cell? ⟨y, j, none⟩ = some (.pointer (some ⟨t.pb, 0, none⟩))) (by kernel_rfl) (by first | (exact ⟨e0, p1⟩)) (fun hHeld => ?_)
 refine tkW 0 ?_; refine tkW 1 ?_; refine tkN 2 ?_; refine tkW 3 ?_; refine tkW 4 ?_; refine tkW 5 ?_; refine tkN 6 ?_; refine tkW 7 ?_
 refine wpAnyL_done (by kernel_rfl) ?_
 go_wp2_with fail
 refine wp_region_last (n := 8) (S := fun W => W.cell? ⟨w.heap.size, 0, none⟩ = some (.int .i64 (j : Int)) /\ W.cell? ⟨y, 3 + j, none⟩ = some (.pointer (some ⟨t.rb, 0, none⟩))) (by kernel_rfl) (by first | (exact ⟨e0, d1⟩)) (fun hHeld => ?_)
 refine tkW 0 ?_; refine tkW 1 ?_; refine tkN 2 ?_; refine tkW 3 ?_; refine tkW 4 ?_; refine tkW 5 ?_; refine tkN 6 ?_; refine tkW 7 ?_
 refine wpAnyL_done (by kernel_rfl) ?_
 go_wp2_with fail
 refine (uh HA).mono ?_
 rintro r w2 ⟨rfl, hw⟩
 rw [hw]
 clear hw w2 e0 e1 p1 d1
 go_wp2_with fail
 refine (uh HR).mono ?_
 rintro r w2 ⟨rfl, hw⟩
 rw [hw]
 clear hw w2
 go_wp2_with fail
 go_ret
 exact ⟨rfl, T, U, (uh HF _ (uh B1d)).mono (by omega)⟩
theorem looks_read {w0 w : World} {y N j : Nat} {T : Nat -> Option Tw} {U : Nat -> Prop} (h : PlayIs w0 w y N T U) (hj : j < 3) {t : Tw} (ht : T j = some t) (hN : N < 800000) (o : OpV) (hd : o.d = (j : Int)) (hk : o.kd = 8) (ho : OpIn w0 o) :
  Calls Tryz.prog 16 #[.pointer (some ⟨y, 0, none⟩), o.val] w fun e w' => e = .returned (.bool true) /\ ∃ T' U', PlayIs w0 w' y (N + 64) T' U' := by
 have hT := h.tw j hj t ht
 have hs : o.nm.size <= maxLen := by have := ho.nm; unfold maxLen; omega
 have hp1 := h.p j hj
 have hd1 := h.d j hj
 rw [ht] at hp1 hd1
 have hp1 : w.cell? ⟨y, j, none⟩ = some (.pointer (some ⟨t.pb, 0, none⟩)) := hp1
 have hd1 : w.cell? ⟨y, 3 + j, none⟩ = some (.pointer (some ⟨t.rb, 0, none⟩)) := hd1
 have hyl := h.kb.lt
 have hyw : w0.heap.size <= y := h.yl
 obtain ⟨w1, hw1⟩ : ∃ w1, w1 = w.alloc (.cells #[.int .i64 (j : Int), .int .i64 8, .string o.nm, .string o.to, .slice o.pu o.b2.length o.cu, .int .i64 o.pos, .int .i64 o.n, .slice o.pk o.ks.length o.ck, .int .i64 o.cp, .slice o.pf o.fs.length o.cf, .int .i64 o.fu, .bool o.dn] 61) := ⟨_, rfl⟩
 have B1 : Hid (Below w.heap.size w w1) := by rw [hw1]; exact bal (Below.refl _ _) _
 have hz1 : w1.heap.size = w.heap.size + 1 := by rw [hw1]; simp
 have e0 : w1.cell? ⟨w.heap.size, 0, none⟩ = some (.int .i64 (j : Int)) := by rw [hw1]; simp
 have e1 : w1.cell? ⟨w.heap.size, 1, none⟩ = some (.int .i64 8) := by rw [hw1]; simp
 have b2 : w1.cell? ⟨w.heap.size, 2, none⟩ = some (.string o.nm) := by rw [hw1]; simp
 have b5 : w1.cell? ⟨w.heap.size, 5, none⟩ = some (.int .i64 o.pos) := by rw [hw1]; simp
 have b6 : w1.cell? ⟨w.heap.size, 6, none⟩ = some (.int .i64 o.n) := by rw [hw1]; simp
 have p1 : w1.cell? ⟨y, j, none⟩ = some (.pointer (some ⟨t.pb, 0, none⟩)) := keep1 (uh B1) hyl hp1
 have d1 : w1.cell? ⟨y, 3 + j, none⟩ = some (.pointer (some ⟨t.rb, 0, none⟩)) := keep1 (uh B1) hyl hd1
 have B1d : Hid (Below w.heap.size w w1.drew.drew) := (uh B1).drew.drew
 have HF : Hid (∀ W, Below w.heap.size w W -> PlayIs w0 W y N T U) := fun W hb => h.below hb
 have HFR : Hid (∀ q, w.heap.size <= q -> w0.heap.size <= q /\ q ≠ y /\ ¬ U q /\ ∀ i, i < 3 -> ∀ t, T i = some t -> ¬ t.fp q) := fun q hq => ⟨Nat.le_trans h.bl.size hq, by omega, fun e => by have := (h.kb.ul q e).2.2; omega, fun i hi t ht e => by have := (h.tw i hi t ht).lt e; omega⟩
 have HA : Hid (∀ W, Below w.heap.size w W -> ∀ a n, a <= 9223372036854775807 -> Calls Tryz.prog 43 #[.pointer (some ⟨t.pb, 0, none⟩), .string o.nm, .int .i64 a, .int .i64 n] W fun e w2 => ReadOut W (readK o.nm a n t.K) e w2) := fun W hb a n ha => read_any (hT.p.below hb) hT.i o.nm hs a n ha
 have HR : Hid (∀ W, Below w.heap.size w W -> Calls Tryz.prog 110 #[.pointer (some ⟨t.rb, 0, none⟩), .string o.nm, .int .i64 o.pos, .int .i64 o.n] W fun e w2 => ReadOut W (readK o.nm o.pos o.n t.K) e w2) := fun W hb => rread_any (hT.r.below hb) hT.i o.nm ho.nm o.pos o.n
 have hpo := ho.ps.2
 have hlen := readK_len (s := o.nm) (a := o.pos) (n := o.n) hT.i
 obtain ⟨X, hX⟩ : ∃ X, X = readK o.nm o.pos o.n t.K := ⟨_, rfl⟩
 rw [<- hX] at hlen HR
 have HX := hide hX
 clear hX
 have hjI : (0 : Int) <= (j : Int) := by omega
 have hjI3 : (j : Int) < 3 := by omega
 unfold OpV.val
 rw [hd, hk]
 clear h hT hs hp1 hd1 ht hd hk ho
 go_enter Tryz.func16, Tryz.ntmps16
 go_wp2_with fail
 rw [<- hw1]
 clear hw1
 refine wp_region_last (n := 8) (S := fun W => W.cell? ⟨w.heap.size, 0, none⟩ = some (.int .i64 (j : Int)) /\ W.cell? ⟨y, j, none⟩ = some (.pointer (some ⟨t.pb, 0, none⟩))) (by kernel_rfl) (by first | (exact ⟨e0, p1⟩)) (fun hHeld => ?_)
 refine tkW 0 ?_; refine tkW 1 ?_; refine tkN 2 ?_; refine tkW 3 ?_; refine tkW 4 ?_; refine tkW 5 ?_; refine tkN 6 ?_; refine tkW 7 ?_
 refine wpAnyL_done (by kernel_rfl) ?_
 go_wp2_with fail
 refine wp_region_last (n := 8) (S := fun W => W.cell? ⟨w.heap.size, 0, none⟩ = some (.int .i64 (j : Int)) /\ W.cell? ⟨y, 3 + j, none⟩ = some (.pointer (some ⟨t.rb, 0, none⟩))) (by kernel_rfl) (by first | (exact ⟨e0, d1⟩)) (fun hHeld => ?_)
 refine tkW 0 ?_; refine tkW 1 ?_; refine tkN 2 ?_; refine tkW 3 ?_; refine tkW 4 ?_; refine tkW 5 ?_; refine tkN 6 ?_; refine tkW 7 ?_
 refine wpAnyL_done (by kernel_rfl) ?_
 go_wp2_with fail
 refine (uh HA _ (uh B1d) o.pos o.n hpo).mono ?_
 rintro r w2 ⟨⟨pa, ca, rfl, ra⟩, hb⟩
 rw [<- uh HX] at ra ⊢
 have B2 : Hid (Below w.heap.size w w2) := (uh B1d).trans (hb.mono (uh B1d).size)
 have m2 : w2.cell? ⟨w.heap.size, 2, none⟩ = some (.string o.nm) := keep1 hb (by show w.heap.size < w1.heap.size; omega) b2
 have m5 : w2.cell? ⟨w.heap.size, 5, none⟩ = some (.int .i64 o.pos) := keep1 hb (by show w.heap.size < w1.heap.size; omega) b5
 have m6 : w2.cell? ⟨w.heap.size, 6, none⟩ = some (.int .i64 o.n) := keep1 hb (by show w.heap.size < w1.heap.size; omega) b6
 have RA : Hid (w2.ownsRow w.heap.size 5 1 (.slice pa X.1.length ca) X.1.length (bcs X.1)) := row_base ra (show w.heap.size <= w1.heap.size by omega)
 have hz2 : w.heap.size < w2.heap.size := by have := hb.size; show w.heap.size < w2.heap.size; have h9 : w1.heap.size <= w2.heap.size := this; omega
 clear ra hb b2 b5 b6 e0 e1 p1 d1
 go_wp2_with fail
 refine (uh HA w2 (uh B2) 0 1 (by omega)).mono ?_
 rintro r w3 ⟨⟨px, cx, rfl, rx⟩, hb⟩
 have B3 : Hid (Below w.heap.size w w3) := (uh B2).trans (hb.mono (uh B2).size)
 have n2 := keep1 hb hz2 m2
 have n5 := keep1 hb hz2 m5
 have n6 := keep1 hb hz2 m6
 have RA3 : Hid (w3.ownsRow w.heap.size 5 1 (.slice pa X.1.length ca) X.1.length (bcs X.1)) := row_far (uh RA) (fun q hq => hb.block q ((uh RA).lt q hq).2)
 have hz3 : w2.heap.size <= w3.heap.size := hb.size
 clear rx hb m2 m5 m6
 go_wp2_with fail
 refine (uh HA w3 (uh B3) o.pos o.n hpo).mono ?_
 rintro r w4 ⟨⟨pb, cb, rfl, rb⟩, hb⟩
 rw [<- uh HX] at rb ⊢
 have B4 : Hid (Below w.heap.size w w4) := (uh B3).trans (hb.mono (uh B3).size)
 have k2 := keep1 hb (by omega) n2
 have k5 := keep1 hb (by omega) n5
 have k6 := keep1 hb (by omega) n6
 have RA4 : Hid (w4.ownsRow w.heap.size 5 1 (.slice pa X.1.length ca) X.1.length (bcs X.1)) := row_far (uh RA3) (fun q hq => hb.block q ((uh RA3).lt q hq).2)
 have RB4 := hide rb
 have hz4 : w3.heap.size <= w4.heap.size := hb.size
 clear rb hb n2 n5 n6
 go_wp2_with fail
 refine (uh HR w4 (uh B4)).mono ?_
 rintro r w5 ⟨⟨pw, cw, rfl, rw5⟩, hb⟩
 have B5 : Hid (Below w.heap.size w w5) := (uh B4).trans (hb.mono (uh B4).size)
 have RA5 : Hid (w5.ownsRow w.heap.size 5 1 (.slice pa X.1.length ca) X.1.length (bcs X.1)) := row_far (uh RA4) (fun q hq => hb.block q ((uh RA4).lt q hq).2)
 have RB5 : Hid (w5.ownsRow w3.heap.size 5 1 (.slice pb X.1.length cb) X.1.length (bcs X.1)) := row_far (uh RB4) (fun q hq => hb.block q ((uh RB4).lt q hq).2)
 have hz5 : w4.heap.size <= w5.heap.size := hb.size
 have va := conv_row (uh RA5)
 have vb := conv_row (uh RB5)
 have vw := conv_row rw5
 have hKW := hide ((uh HF w5 (uh B5)).kwB (by have h9 := row_base (uh RA5) (Nat.zero_le _); rw [bcs_cells] at h9; exact h9) (by have h9 := row_base (uh RB5) (Nat.zero_le _); rw [bcs_cells] at h9; exact h9) hlen (fun q h1 h2 => by
  have h3 := ((uh RB4).lt q h2).1
  have h4 : q < w3.heap.size := ((uh RA3).lt q h1).2
  omega) (fun q hq => uh HFR q ((uh RA5).lt q hq).1) (fun q hq => uh HFR q (by have := ((uh RB5).lt q hq).1; omega)))
 clear rw5 hb k2 k5 k6
 go_wp2_with fail
 refine (num_any _ _).mono ?_
 rintro r wz ⟨rfl, hw⟩
 rw [hw]
 clear hw wz
 go_wp2_with fail
 refine (num_any _ _).mono ?_
 rintro r wz ⟨rfl, hw⟩
 rw [hw]
 clear hw wz
 go_wp2_with fail
 refine (num_any _ _).mono ?_
 rintro r wz ⟨rfl, hw⟩
 rw [hw]
 clear hw wz
 go_wp2_with fail
 refine (num_any _ _).mono ?_
 rintro r wz ⟨rfl, hw⟩
 rw [hw]
 clear hw wz
 go_wp2_with fail
 refine (uh hKW).mono ?_
 rintro r w6 ⟨rfl, hc⟩
 have HC := hide hc
 clear hc va vb vw
 go_wp2_with fail
 refine (uh HC).mono ?_
 rintro r w7 ⟨rfl, U7, h7⟩
 have H7 := hide h7
 clear h7
 go_wp2_with fail
 go_ret
 exact ⟨rfl, T, U7, (uh H7).mono (by omega)⟩
theorem looks_list {w0 w : World} {y N j : Nat} {T : Nat -> Option Tw} {U : Nat -> Prop} (h : PlayIs w0 w y N T U) (hj : j < 3) {t : Tw} (ht : T j = some t) (hN : N < 800000) (o : OpV) (hd : o.d = (j : Int)) (hk : o.kd = 10) (ho : OpIn w0 o) :
  Calls Tryz.prog 16 #[.pointer (some ⟨y, 0, none⟩), o.val] w fun e w' => e = .returned (.bool true) /\ ∃ T' U', PlayIs w0 w' y (N + 64) T' U' := by
 have hT := h.tw j hj t ht
 have hs : o.nm.size <= maxLen := by have := ho.nm; unfold maxLen; omega
 have hp1 := h.p j hj
 have hd1 := h.d j hj
 rw [ht] at hp1 hd1
 have hp1 : w.cell? ⟨y, j, none⟩ = some (.pointer (some ⟨t.pb, 0, none⟩)) := hp1
 have hd1 : w.cell? ⟨y, 3 + j, none⟩ = some (.pointer (some ⟨t.rb, 0, none⟩)) := hd1
 have hyl := h.kb.lt
 have hyw : w0.heap.size <= y := h.yl
 obtain ⟨w1, hw1⟩ : ∃ w1, w1 = w.alloc (.cells #[.int .i64 (j : Int), .int .i64 10, .string o.nm, .string o.to, .slice o.pu o.b2.length o.cu, .int .i64 o.pos, .int .i64 o.n, .slice o.pk o.ks.length o.ck, .int .i64 o.cp, .slice o.pf o.fs.length o.cf, .int .i64 o.fu, .bool o.dn] 61) := ⟨_, rfl⟩
 have B1 : Hid (Below w.heap.size w w1) := by rw [hw1]; exact bal (Below.refl _ _) _
 have hz1 : w1.heap.size = w.heap.size + 1 := by rw [hw1]; simp
 have e0 : w1.cell? ⟨w.heap.size, 0, none⟩ = some (.int .i64 (j : Int)) := by rw [hw1]; simp
 have e1 : w1.cell? ⟨w.heap.size, 1, none⟩ = some (.int .i64 10) := by rw [hw1]; simp
 have p1 : w1.cell? ⟨y, j, none⟩ = some (.pointer (some ⟨t.pb, 0, none⟩)) := keep1 (uh B1) hyl hp1
 have d1 : w1.cell? ⟨y, 3 + j, none⟩ = some (.pointer (some ⟨t.rb, 0, none⟩)) := keep1 (uh B1) hyl hd1
 have B1d : Hid (Below w.heap.size w w1.drew.drew) := (uh B1).drew.drew
 have HF : Hid (∀ W, Below w.heap.size w W -> PlayIs w0 W y N T U) := fun W hb => h.below hb
 have HFR : Hid (∀ q, w.heap.size <= q -> w0.heap.size <= q /\ q ≠ y /\ ¬ U q /\ ∀ i, i < 3 -> ∀ t, T i = some t -> ¬ t.fp q) := fun q hq => ⟨Nat.le_trans h.bl.size hq, by omega, fun e => by have := (h.kb.ul q e).2.2; omega, fun i hi t ht e => by have := (h.tw i hi t ht).lt e; omega⟩
 have HA : Hid (∀ W, Below w.heap.size w W -> Calls Tryz.prog 44 #[.pointer (some ⟨t.pb, 0, none⟩)] W fun e w2 => ListOut W (listK t.K) e w2) := fun W hb => list_any (hT.p.below hb) hT.i
 have HR : Hid (∀ W, Below w.heap.size w W -> Calls Tryz.prog 115 #[.pointer (some ⟨t.rb, 0, none⟩)] W fun e w2 => ListOut W (listK t.K) e w2) := fun W hb => rlist_any (hT.r.below hb) hT.i
 have HE : Hid (∀ W, Below w.heap.size w W -> Calls Tryz.prog 45 #[.pointer (some ⟨t.pb, 0, none⟩)] W fun e w2 => (∃ r, e = .returned r) /\ Below W.heap.size W w2) := fun W hb => by
  obtain ⟨mo, n, es, hD⟩ := hT.p.below hb
  exact (free_ok hD hT.i.cap1 hT.c0 hT.tt).mono (fun e w2 hh => ⟨⟨_, hh.1⟩, hh.2⟩)
 have hlen := listK_len hT.i
 obtain ⟨X, hX⟩ : ∃ X, X = listK t.K := ⟨_, rfl⟩
 rw [<- hX] at hlen HR HA
 clear hX
 have hjI : (0 : Int) <= (j : Int) := by omega
 have hjI3 : (j : Int) < 3 := by omega
 unfold OpV.val
 rw [hd, hk]
 clear h hT hs hp1 hd1 ht hd hk ho
 go_enter Tryz.func16, Tryz.ntmps16
 go_wp2_with fail
 rw [<- hw1]
 clear hw1
 refine wp_region_last (n := 8) (S := fun W => W.cell? ⟨w.heap.size, 0, none⟩ = some (.int .i64 (j : Int)) /\ W.cell? ⟨y, j, none⟩ = some (.pointer (some ⟨t.pb, 0, none⟩))) (by kernel_rfl) (by first | (exact ⟨e0, p1⟩)) (fun hHeld => ?_)
 refine tkW 0 ?_; refine tkW 1 ?_; refine tkN 2 ?_; refine tkW 3 ?_; refine tkW 4 ?_; refine tkW 5 ?_; refine tkN 6 ?_; refine tkW 7 ?_
 refine wpAnyL_done (by kernel_rfl) ?_
 go_wp2_with fail
 refine wp_region_last (n := 8) (S := fun W => W.cell? ⟨w.heap.size, 0, none⟩ = some (.int .i64 (j : Int)) /\ W.cell? ⟨y, 3 + j, none⟩ = some (.pointer (some ⟨t.rb, 0, none⟩))) (by kernel_rfl) (by first | (exact ⟨e0, d1⟩)) (fun hHeld => ?_)
 refine tkW 0 ?_; refine tkW 1 ?_; refine tkN 2 ?_; refine tkW 3 ?_; refine tkW 4 ?_; refine tkW 5 ?_; refine tkN 6 ?_; refine tkW 7 ?_
 refine wpAnyL_done (by kernel_rfl) ?_
 go_wp2_with fail
 refine (uh HA _ (uh B1d)).mono ?_
 rintro r w2 ⟨⟨v2, rfl, ra⟩, hb⟩
 have B2 : Hid (Below w.heap.size w w2) := (uh B1d).trans (hb.mono (uh B1d).size)
 have RA : Hid (w2.ownsRow w.heap.size 9 1 v2 X.1.length (X.1.map encStr)) := row_base ra (show w.heap.size <= w1.heap.size by omega)
 clear ra hb e0 e1 p1 d1
 go_wp2_with fail
 refine (uh HE w2 (uh B2)).mono ?_
 rintro r w3 ⟨⟨rz, rfl⟩, hb⟩
 have B3 : Hid (Below w.heap.size w w3) := (uh B2).trans (hb.mono (uh B2).size)
 have RA3 : Hid (w3.ownsRow w.heap.size 9 1 v2 X.1.length (X.1.map encStr)) := row_far (uh RA) (fun q hq => hb.block q ((uh RA).lt q hq).2)
 clear hb
 go_wp2_with fail
 refine (uh HA w3 (uh B3)).mono ?_
 rintro r w4 ⟨⟨v4, rfl, rb⟩, hb⟩
 have B4 : Hid (Below w.heap.size w w4) := (uh B3).trans (hb.mono (uh B3).size)
 have RA4 : Hid (w4.ownsRow w.heap.size 9 1 v2 X.1.length (X.1.map encStr)) := row_far (uh RA3) (fun q hq => hb.block q ((uh RA3).lt q hq).2)
 have RB4 := hide rb
 have hz3 : w.heap.size <= w3.heap.size := (uh B3).size
 clear rb hb
 go_wp2_with fail
 refine (uh HR w4 (uh B4)).mono ?_
 rintro r w5 ⟨⟨v5, rfl, rc⟩, hb⟩
 have B5 : Hid (Below w.heap.size w w5) := (uh B4).trans (hb.mono (uh B4).size)
 have RA5 : Hid (w5.ownsRow w.heap.size 9 1 v2 X.1.length (X.1.map encStr)) := row_far (uh RA4) (fun q hq => hb.block q ((uh RA4).lt q hq).2)
 have RB5 : Hid (w5.ownsRow w3.heap.size 9 1 v4 X.1.length (X.1.map encStr)) := row_far (uh RB4) (fun q hq => hb.block q ((uh RB4).lt q hq).2)
 have RC5 := hide rc
 clear rc hb
 go_wp2_with fail
 refine (num_any _ _).mono ?_
 rintro r wz ⟨rfl, hw⟩
 rw [hw]
 clear hw wz
 go_wp2_with fail
 refine (num_any _ _).mono ?_
 rintro r wz ⟨rfl, hw⟩
 rw [hw]
 clear hw wz
 go_wp2_with fail
 refine (num_any _ _).mono ?_
 rintro r wz ⟨rfl, hw⟩
 rw [hw]
 clear hw wz
 go_wp2_with fail
 refine (num_any _ _).mono ?_
 rintro r wz ⟨rfl, hw⟩
 rw [hw]
 clear hw wz
 go_wp2_with fail
 refine (sameTexts_own X.1 (by omega) (uh RA5) (uh RC5)).mono ?_
 rintro r w6 ⟨rfl, hb⟩
 have B6 : Hid (Below w.heap.size w w6) := (uh B5).trans (hb.mono (uh B5).size)
 have RA6 : Hid (w6.ownsRow w.heap.size 9 1 v2 X.1.length (X.1.map encStr)) := row_far (uh RA5) (fun q hq => hb.block q ((uh RA5).lt q hq).2)
 have RB6 : Hid (w6.ownsRow w3.heap.size 9 1 v4 X.1.length (X.1.map encStr)) := row_far (uh RB5) (fun q hq => hb.block q ((uh RB5).lt q hq).2)
 have RC6 := hide (own_below (uh RC5) hb)
 clear hb
 go_wp2_with fail
 refine (sameTexts_own X.1 (by omega) (uh RB6) (uh RC6)).mono ?_
 rintro r w7 ⟨rfl, hb⟩
 have B7 : Hid (Below w.heap.size w w7) := (uh B6).trans (hb.mono (uh B6).size)
 have RA7 : Hid (w7.ownsRow w.heap.size 9 1 v2 X.1.length (X.1.map encStr)) := row_far (uh RA6) (fun q hq => hb.block q ((uh RA6).lt q hq).2)
 have RB7 : Hid (w7.ownsRow w3.heap.size 9 1 v4 X.1.length (X.1.map encStr)) := row_far (uh RB6) (fun q hq => hb.block q ((uh RB6).lt q hq).2)
 have hKW := hide ((uh HF w7 (uh B7)).kwT (by have h9 := row_base (uh RA7) (Nat.zero_le _); rw [enc_cells] at h9; exact h9) (by have h9 := row_base (uh RB7) (Nat.zero_le _); rw [enc_cells] at h9; exact h9) (Nat.le_trans hlen (by omega)) (fun q h1 h2 => by
  have h3 := ((uh RB4).lt q h2).1
  have h4 : q < w3.heap.size := ((uh RA3).lt q h1).2
  omega) (fun q hq => uh HFR q ((uh RA7).lt q hq).1) (fun q hq => uh HFR q (by have := ((uh RB7).lt q hq).1; omega)))
 clear hb
 go_wp2_with fail
 refine (uh hKW).mono ?_
 rintro r w8 ⟨rfl, hc⟩
 have HC := hide hc
 clear hc
 go_wp2_with fail
 refine (uh HC).mono ?_
 rintro r w9 ⟨rfl, U9, h9⟩
 have H9 := hide h9
 clear h9
 go_wp2_with fail
 go_ret
 exact ⟨rfl, T, U9, (uh H9).mono (by omega)⟩
theorem mem_tot {p : List UInt8 × Fl} : ∀ {A : Fs}, p ∈ A -> p.2.bs.length <= totF A
 | [], h => by cases h
 | q :: A, h => by
  have h2 : totF (q :: A) = q.2.bs.length + totF A := by simp [totF]
  rcases List.mem_cons.1 h with rfl | h
  ·omega
  ·have := mem_tot h; omega
theorem PlayIs.kwS {w0 w : World} {y N : Nat} {T : Nat -> Option Tw} {U : Nat -> Prop} (h : PlayIs w0 w y N T U) {ba ea bb eb : Nat} {va vb : Value} {A : Fs} (ra : FilesRow w ba ea va A) (rb : FilesRow w bb eb vb A) (hA : A.length <= 64) (hx : ∀ p ∈ A, p.2.bs.length <= 1048576) (hva : ∀ q, va.ownBlock = some q -> q < ea) (hvb : ∀ q, vb.ownBlock = some q -> q < eb) (hab : ea <= bb) (hbe : ea <= w.heap.size /\ eb <= w.heap.size)
  (hf : ∀ q, ba <= q -> w0.heap.size <= q /\ q ≠ y /\ ¬ U q /\ ∀ i, i < 3 -> ∀ t, T i = some t -> ¬ t.fp q) (cp fu : Int) (dn : Bool) :
  Calls Tryz.prog 121 #[.pointer (some ⟨y, 0, none⟩), .agg #[.int .i64 cp, va, .int .i64 fu, .bool dn], .bool false] w fun e w' => e = .returned (.tuple #[]) /\ (∀ q, q < w.heap.size -> ba <= q -> ea <= q -> w'.heap[q]? = w.heap[q]?) /\ Calls Tryz.prog 121 #[.pointer (some ⟨y, 0, none⟩), .agg #[.int .i64 cp, vb, .int .i64 fu, .bool dn], .bool true] w' fun e w'' => e = .returned (.tuple #[]) /\ ∃ U'', PlayIs w0 w'' y N T U'' := by
 have hz := h.z0
 have hle : ba <= ea := by obtain ⟨xs, _, h1⟩ := ra; exact h1.le
 refine (pstate_keep h.kb ra hA hx hva hbe.1 (fun q h1 h2 => ⟨(hf q h1).2.1, by have := (hf q h1).1; omega, (hf q h1).2.2.1⟩) cp fu dn).mono ?_
 rintro e w' ⟨rfl, U', hk, hT⟩
 have h1 := h.tookR hT hk (by have := (hf ba (Nat.le_refl _)).1; exact this) (fun q h2 h3 => (hf q h2).2.2.2)
 have hfar : ∀ q, q < w.heap.size -> ba <= q -> ea <= q -> w'.heap[q]? = w.heap[q]? := fun q h2 h3 h4 => hT.block q h2 (hf q h3).2.1 (hf q h3).2.2.1 (fun e => by omega)
 have rb' : FilesRow w' bb eb vb A := rb.sep hbe.2 (S := fun q => q < bb) (S' := fun q => q < bb) ⟨hT.os, hT.tape, hT.output, hT.size, fun q h2 h3 => hfar q h2 (by omega) (by omega), fun q h2 => .inl h2⟩ (fun q h2 => h2)
 refine ⟨rfl, hfar, (pstate_write h1.kb rb' hA hx hvb (Nat.le_trans hbe.2 hT.size) (fun q h2 h3 => ⟨(hf q (by omega)).2.1, by have := (hf q (by omega)).1; omega, fun e => ?_⟩) cp fu dn).mono ?_⟩
 ·rcases hT.new q e with e' | e' | e'
  ·exact (hf q (by omega)).2.2.1 e'
  ·omega
  ·omega
 ·rintro e w'' ⟨rfl, U'', hk2, hT2⟩
  exact ⟨rfl, U'', h1.tookR hT2 hk2 (by have := (hf bb (by omega)).1; exact this) (fun q h2 h3 => (hf q (by omega)).2.2.2)⟩
theorem looks_state {w0 w : World} {y N j : Nat} {T : Nat -> Option Tw} {U : Nat -> Prop} (h : PlayIs w0 w y N T U) (hj : j < 3) {t : Tw} (ht : T j = some t) (hN : N < 800000) (o : OpV) (hd : o.d = (j : Int)) (hk : o.kd = 15) (ho : OpIn w0 o) :
  Calls Tryz.prog 16 #[.pointer (some ⟨y, 0, none⟩), o.val] w fun e w' => e = .returned (.bool true) /\ ∃ T' U', PlayIs w0 w' y (N + 64) T' U' := by
 have hT := h.tw j hj t ht
 have hs : o.nm.size <= maxLen := by have := ho.nm; unfold maxLen; omega
 have hp1 := h.p j hj
 have hd1 := h.d j hj
 rw [ht] at hp1 hd1
 have hp1 : w.cell? ⟨y, j, none⟩ = some (.pointer (some ⟨t.pb, 0, none⟩)) := hp1
 have hd1 : w.cell? ⟨y, 3 + j, none⟩ = some (.pointer (some ⟨t.rb, 0, none⟩)) := hd1
 have hyl := h.kb.lt
 have hyw : w0.heap.size <= y := h.yl
 obtain ⟨w1, hw1⟩ : ∃ w1, w1 = w.alloc (.cells #[.int .i64 (j : Int), .int .i64 15, .string o.nm, .string o.to, .slice o.pu o.b2.length o.cu, .int .i64 o.pos, .int .i64 o.n, .slice o.pk o.ks.length o.ck, .int .i64 o.cp, .slice o.pf o.fs.length o.cf, .int .i64 o.fu, .bool o.dn] 61) := ⟨_, rfl⟩
 have B1 : Hid (Below w.heap.size w w1) := by rw [hw1]; exact bal (Below.refl _ _) _
 have hz1 : w1.heap.size = w.heap.size + 1 := by rw [hw1]; simp
 have e0 : w1.cell? ⟨w.heap.size, 0, none⟩ = some (.int .i64 (j : Int)) := by rw [hw1]; simp
 have e1 : w1.cell? ⟨w.heap.size, 1, none⟩ = some (.int .i64 15) := by rw [hw1]; simp
 have p1 : w1.cell? ⟨y, j, none⟩ = some (.pointer (some ⟨t.pb, 0, none⟩)) := keep1 (uh B1) hyl hp1
 have d1 : w1.cell? ⟨y, 3 + j, none⟩ = some (.pointer (some ⟨t.rb, 0, none⟩)) := keep1 (uh B1) hyl hd1
 have B1d : Hid (Below w.heap.size w w1.drew.drew) := (uh B1).drew.drew
 have HF : Hid (∀ W, Below w.heap.size w W -> PlayIs w0 W y N T U) := fun W hb => h.below hb
 have HFR : Hid (∀ q, w.heap.size <= q -> w0.heap.size <= q /\ q ≠ y /\ ¬ U q /\ ∀ i, i < 3 -> ∀ t, T i = some t -> ¬ t.fp q) := fun q hq => ⟨Nat.le_trans h.bl.size hq, by omega, fun e => by have := (h.kb.ul q e).2.2; omega, fun i hi t ht e => by have := (h.tw i hi t ht).lt e; omega⟩
 have HA : Hid (∀ W, Below w.heap.size w W -> Calls Tryz.prog 11 #[.pointer (some ⟨t.pb, 0, none⟩)] W fun e w2 => (∃ v, e = .returned (.agg #[.int .i64 t.K.cap, v, .int .i64 t.K.fuse, .bool t.K.down]) /\ ∃ b, W.heap.size <= b /\ FilesRow w2 b w2.heap.size v t.K.A) /\ Below W.heap.size W w2) := fun W hb => by
  obtain ⟨mo, n, es, hD⟩ := hT.p.below hb
  exact state_ok hD hT.i
 have HR : Hid (∀ W, Below w.heap.size w W -> Calls Tryz.prog 12 #[.pointer (some ⟨t.rb, 0, none⟩)] W fun e w2 => (∃ v, e = .returned (.agg #[.int .i64 t.K.cap, v, .int .i64 t.K.fuse, .bool t.K.down]) /\ ∃ b, W.heap.size <= b /\ FilesRow w2 b w2.heap.size v t.K.A) /\ Below W.heap.size W w2) := fun W hb => rstate_ok (hT.r.below hb) hT.i
 have HE : Hid (∀ W, Below w.heap.size w W -> Calls Tryz.prog 44 #[.pointer (some ⟨t.pb, 0, none⟩)] W fun e w2 => (∃ r, e = .returned r) /\ Below W.heap.size W w2) := fun W hb => (list_any (hT.p.below hb) hT.i).mono (fun e w2 hh => by obtain ⟨⟨v, h1, _⟩, h2⟩ := hh; exact ⟨⟨_, h1⟩, h2⟩)
 have hA := hT.i.many
 have HXL : Hid (∀ p ∈ t.K.A, p.2.bs.length <= 1048576) := fun p hp => by
  have h1 := mem_tot hp
  have h2 := hT.tt
  omega
 obtain ⟨A, hAe⟩ : ∃ A, A = t.K.A := ⟨_, rfl⟩
 obtain ⟨CP, hCe⟩ : ∃ CP, CP = t.K.cap := ⟨_, rfl⟩
 obtain ⟨FU, hFe⟩ : ∃ FU, FU = t.K.fuse := ⟨_, rfl⟩
 obtain ⟨DN, hDe⟩ : ∃ DN, DN = t.K.down := ⟨_, rfl⟩
 rw [<- hAe] at HXL hA
 rw [<- hAe, <- hCe, <- hFe, <- hDe] at HA HR
 clear hAe hCe hFe hDe
 have hjI : (0 : Int) <= (j : Int) := by omega
 have hjI3 : (j : Int) < 3 := by omega
 unfold OpV.val
 rw [hd, hk]
 clear h hT hs hp1 hd1 ht hd hk ho
 go_enter Tryz.func16, Tryz.ntmps16
 go_wp2_with fail
 rw [<- hw1]
 clear hw1
 refine wp_region_last (n := 8) (S := fun W => W.cell? ⟨w.heap.size, 0, none⟩ = some (.int .i64 (j : Int)) /\ W.cell? ⟨y, j, none⟩ = some (.pointer (some ⟨t.pb, 0, none⟩))) (by kernel_rfl) (by first | (exact ⟨e0, p1⟩)) (fun hHeld => ?_)
 refine tkW 0 ?_; refine tkW 1 ?_; refine tkN 2 ?_; refine tkW 3 ?_; refine tkW 4 ?_; refine tkW 5 ?_; refine tkN 6 ?_; refine tkW 7 ?_
 refine wpAnyL_done (by kernel_rfl) ?_
 go_wp2_with fail
 refine wp_region_last (n := 8) (S := fun W => W.cell? ⟨w.heap.size, 0, none⟩ = some (.int .i64 (j : Int)) /\ W.cell? ⟨y, 3 + j, none⟩ = some (.pointer (some ⟨t.rb, 0, none⟩))) (by kernel_rfl) (by first | (exact ⟨e0, d1⟩)) (fun hHeld => ?_)
 refine tkW 0 ?_; refine tkW 1 ?_; refine tkN 2 ?_; refine tkW 3 ?_; refine tkW 4 ?_; refine tkW 5 ?_; refine tkN 6 ?_; refine tkW 7 ?_
 refine wpAnyL_done (by kernel_rfl) ?_
 go_wp2_with fail
 refine (uh HA _ (uh B1d)).mono ?_
 rintro r w2 ⟨⟨va, rfl, ba, hba, ra⟩, hb⟩
 obtain ⟨pa, ca, hva⟩ := ra.shape
 subst hva
 have B2 : Hid (Below w.heap.size w w2) := (uh B1d).trans (hb.mono (uh B1d).size)
 have RA := hide ra
 have VA : Hid (∀ q, (Value.slice pa A.length ca).ownBlock = some q -> q < w2.heap.size) := fun q hq => by obtain ⟨xs, h1, _⟩ := ra; exact (h1.lt q hq).2
 have hba : w1.heap.size <= ba := hba
 have hble : ba <= w2.heap.size := by obtain ⟨xs, _, h1⟩ := uh RA; exact h1.le
 have hz2 : w1.heap.size <= w2.heap.size := hb.size
 clear ra hb e0 e1 p1 d1
 obtain ⟨x2, hx2⟩ : ∃ x2, x2 = w2.alloc (.cells #[.int .i64 CP, .slice pa A.length ca, .int .i64 FU, .bool DN] 59) := ⟨_, rfl⟩
 have BX2 : Hid (Below w2.heap.size w2 x2) := by rw [hx2]; exact bal (Below.refl _ _) _
 have zx2 : x2.heap.size = w2.heap.size + 1 := by rw [hx2]; simp
 have CA : Hid (∀ i, i < 4 -> x2.cell? ⟨w2.heap.size, i, none⟩ = ([.int .i64 CP, .slice pa A.length ca, .int .i64 FU, .bool DN] : List Value)[i]?) := by
  intro i hi
  rw [hx2]
  match i, hi with
  | 0, _ => simp
  | 1, _ => simp
  | 2, _ => simp
  | 3, _ => simp
 have Bx2 : Hid (Below w.heap.size w x2) := (uh B2).trans ((uh BX2).mono (uh B2).size)
 go_wp2_with fail
 rw [<- hx2]
 clear hx2
 refine (uh HE x2 (uh Bx2)).mono ?_
 rintro r w3 ⟨⟨rz, rfl⟩, hb3⟩
 have B3 : Hid (Below w.heap.size w w3) := (uh Bx2).trans (hb3.mono (uh Bx2).size)
 have BA3 : Hid (Below x2.heap.size x2 w3) := hb3
 have z3 : x2.heap.size <= w3.heap.size := hb3.size
 clear hb3
 go_wp2_with fail
 refine (uh HA w3 (uh B3)).mono ?_
 rintro r w4 ⟨⟨vb, rfl, bb, hbb, rb⟩, hb4⟩
 obtain ⟨pb, cb, hvb⟩ := rb.shape
 subst hvb
 have B4 : Hid (Below w.heap.size w w4) := (uh B3).trans (hb4.mono (uh B3).size)
 have BA4 : Hid (Below x2.heap.size x2 w4) := (uh BA3).trans (hb4.mono (uh BA3).size)
 have RB := hide rb
 have VB : Hid (∀ q, (Value.slice pb A.length cb).ownBlock = some q -> q < w4.heap.size) := fun q hq => by obtain ⟨xs, h1, _⟩ := rb; exact (h1.lt q hq).2
 have z4 : w3.heap.size <= w4.heap.size := hb4.size
 obtain ⟨x4, hx4⟩ : ∃ x4, x4 = w4.alloc (.cells #[.int .i64 CP, .slice pb A.length cb, .int .i64 FU, .bool DN] 59) := ⟨_, rfl⟩
 have BX4 : Hid (Below w4.heap.size w4 x4) := by rw [hx4]; exact bal (Below.refl _ _) _
 have zx4 : x4.heap.size = w4.heap.size + 1 := by rw [hx4]; simp
 have CB : Hid (∀ i, i < 4 -> x4.cell? ⟨w4.heap.size, i, none⟩ = ([.int .i64 CP, .slice pb A.length cb, .int .i64 FU, .bool DN] : List Value)[i]?) := by
  intro i hi
  rw [hx4]
  match i, hi with
  | 0, _ => simp
  | 1, _ => simp
  | 2, _ => simp
  | 3, _ => simp
 have Bx4 : Hid (Below w.heap.size w x4) := (uh B4).trans ((uh BX4).mono (uh B4).size)
 have BAx4 : Hid (Below x2.heap.size x2 x4) := (uh BA4).trans ((uh BX4).mono (uh BA4).size)
 clear rb hb4
 go_wp2_with fail
 rw [<- hx4]
 clear hx4
 refine (uh HR x4 (uh Bx4)).mono ?_
 rintro r w5 ⟨⟨vc, rfl, bc, hbc, rc⟩, hb5⟩
 obtain ⟨pc, cc, hvc⟩ := rc.shape
 subst hvc
 have B5 : Hid (Below w.heap.size w w5) := (uh Bx4).trans (hb5.mono (uh Bx4).size)
 have BA5 : Hid (Below x2.heap.size x2 w5) := (uh BAx4).trans (hb5.mono (uh BAx4).size)
 have BB5 : Hid (Below x4.heap.size x4 w5) := hb5
 have RC := hide rc
 have z5 : x4.heap.size <= w5.heap.size := hb5.size
 obtain ⟨x5, hx5⟩ : ∃ x5, x5 = w5.alloc (.cells #[.int .i64 CP, .slice pc A.length cc, .int .i64 FU, .bool DN] 59) := ⟨_, rfl⟩
 have BX5 : Hid (Below w5.heap.size w5 x5) := by rw [hx5]; exact bal (Below.refl _ _) _
 have zx5 : x5.heap.size = w5.heap.size + 1 := by rw [hx5]; simp
 have CC : Hid (∀ i, i < 4 -> x5.cell? ⟨w5.heap.size, i, none⟩ = ([.int .i64 CP, .slice pc A.length cc, .int .i64 FU, .bool DN] : List Value)[i]?) := by
  intro i hi
  rw [hx5]
  match i, hi with
  | 0, _ => simp
  | 1, _ => simp
  | 2, _ => simp
  | 3, _ => simp
 have Bx5 : Hid (Below w.heap.size w x5) := (uh B5).trans ((uh BX5).mono (uh B5).size)
 have BAx5 : Hid (Below x2.heap.size x2 x5) := (uh BA5).trans ((uh BX5).mono (uh BA5).size)
 have BBx5 : Hid (Below x4.heap.size x4 x5) := (uh BB5).trans ((uh BX5).mono (uh BB5).size)
 have RA5 : Hid (FilesRow x5 ba w2.heap.size (.slice pa A.length ca) A) := ((uh RA).below (Nat.le_refl _) (uh BX2)).below (by omega) (uh BAx5)
 have RB5 : Hid (FilesRow x5 bb w4.heap.size (.slice pb A.length cb) A) := ((uh RB).below (Nat.le_refl _) (uh BX4)).below (by omega) (uh BBx5)
 have RC5 : Hid (FilesRow x5 bc w5.heap.size (.slice pc A.length cc) A) := (uh RC).below (Nat.le_refl _) (uh BX5)
 have a0 : x5.cell? ⟨w2.heap.size, 0, none⟩ = some (.int .i64 CP) := keep1 (uh BAx5) (by show w2.heap.size < x2.heap.size; omega) (uh CA 0 (by omega))
 have a1 : x5.cell? ⟨w2.heap.size, 1, none⟩ = some (.slice pa A.length ca) := keep1 (uh BAx5) (by show w2.heap.size < x2.heap.size; omega) (uh CA 1 (by omega))
 have a2 : x5.cell? ⟨w2.heap.size, 2, none⟩ = some (.int .i64 FU) := keep1 (uh BAx5) (by show w2.heap.size < x2.heap.size; omega) (uh CA 2 (by omega))
 have a3 : x5.cell? ⟨w2.heap.size, 3, none⟩ = some (.bool DN) := keep1 (uh BAx5) (by show w2.heap.size < x2.heap.size; omega) (uh CA 3 (by omega))
 have b0 : x5.cell? ⟨w4.heap.size, 0, none⟩ = some (.int .i64 CP) := keep1 (uh BBx5) (by show w4.heap.size < x4.heap.size; omega) (uh CB 0 (by omega))
 have b1 : x5.cell? ⟨w4.heap.size, 1, none⟩ = some (.slice pb A.length cb) := keep1 (uh BBx5) (by show w4.heap.size < x4.heap.size; omega) (uh CB 1 (by omega))
 have b2 : x5.cell? ⟨w4.heap.size, 2, none⟩ = some (.int .i64 FU) := keep1 (uh BBx5) (by show w4.heap.size < x4.heap.size; omega) (uh CB 2 (by omega))
 have b3 : x5.cell? ⟨w4.heap.size, 3, none⟩ = some (.bool DN) := keep1 (uh BBx5) (by show w4.heap.size < x4.heap.size; omega) (uh CB 3 (by omega))
 have c0 : x5.cell? ⟨w5.heap.size, 0, none⟩ = some (.int .i64 CP) := uh CC 0 (by omega)
 have c1 : x5.cell? ⟨w5.heap.size, 1, none⟩ = some (.slice pc A.length cc) := uh CC 1 (by omega)
 have c2 : x5.cell? ⟨w5.heap.size, 2, none⟩ = some (.int .i64 FU) := uh CC 2 (by omega)
 have c3 : x5.cell? ⟨w5.heap.size, 3, none⟩ = some (.bool DN) := uh CC 3 (by omega)
 have hS1 := hide (same_ok (w := x5) CP FU DN (uh RA5) (uh RC5) (by omega) (by omega) hA)
 clear rc hb5
 subst hx5
 go_wp2_with fail
 refine (uh hS1).mono ?_
 rintro r w6 ⟨rfl, hb6⟩
 have B6 : Hid (Below w.heap.size w w6) := (uh Bx5).trans (hb6.mono (uh Bx5).size)
 have C6 : Hid (Below (w5.alloc (.cells #[.int .i64 CP, .slice pc A.length cc, .int .i64 FU, .bool DN] 59)).heap.size (w5.alloc (.cells #[.int .i64 CP, .slice pc A.length cc, .int .i64 FU, .bool DN] 59)) w6) := hb6
 have z6 : (w5.alloc (.cells #[.int .i64 CP, .slice pc A.length cc, .int .i64 FU, .bool DN] 59)).heap.size <= w6.heap.size := hb6.size
 have a0 := keep1 (uh C6) (by omega) a0
 have a1 := keep1 (uh C6) (by omega) a1
 have a2 := keep1 (uh C6) (by omega) a2
 have a3 := keep1 (uh C6) (by omega) a3
 have b0 := keep1 (uh C6) (by omega) b0
 have b1 := keep1 (uh C6) (by omega) b1
 have b2 := keep1 (uh C6) (by omega) b2
 have b3 := keep1 (uh C6) (by omega) b3
 have c0 := keep1 (uh C6) (by omega) c0
 have c1 := keep1 (uh C6) (by omega) c1
 have c2 := keep1 (uh C6) (by omega) c2
 have c3 := keep1 (uh C6) (by omega) c3
 have hS2 := hide (same_ok (w := w6) CP FU DN ((uh RB5).below (by omega) (uh C6)) ((uh RC5).below (by omega) (uh C6)) (by omega) (by omega) hA)
 clear hb6 hS1
 go_wp2_with fail
 refine (uh hS2).mono ?_
 rintro r w7 ⟨rfl, hb7⟩
 have B7 : Hid (Below w.heap.size w w7) := (uh B6).trans (hb7.mono (uh B6).size)
 have C7 : Hid (Below (w5.alloc (.cells #[.int .i64 CP, .slice pc A.length cc, .int .i64 FU, .bool DN] 59)).heap.size (w5.alloc (.cells #[.int .i64 CP, .slice pc A.length cc, .int .i64 FU, .bool DN] 59)) w7) := (uh C6).trans (hb7.mono (uh C6).size)
 have z7 : w6.heap.size <= w7.heap.size := hb7.size
 have a0 := keep1 hb7 (by omega) a0
 have a1 := keep1 hb7 (by omega) a1
 have a2 := keep1 hb7 (by omega) a2
 have a3 := keep1 hb7 (by omega) a3
 have b0 := keep1 hb7 (by omega) b0
 have b1 := keep1 hb7 (by omega) b1
 have b2 := keep1 hb7 (by omega) b2
 have b3 := keep1 hb7 (by omega) b3
 have hKW := hide ((uh HF w7 (uh B7)).kwS ((uh RA5).below (by omega) (uh C7)) ((uh RB5).below (by omega) (uh C7)) hA (uh HXL) (uh VA) (uh VB) (by omega) (by omega) (fun q h1 => uh HFR q (by omega)) CP FU DN)
 clear hb7 hS2 c0 c1 c2 c3
 go_wp2_with fail
 refine (uh hKW).mono ?_
 rintro r w8 ⟨rfl, hbx, hc⟩
 have e4 := hbx w4.heap.size (by omega) (by omega) (by omega)
 have b0 := (World.cell?_of_block (a := ⟨w4.heap.size, 0, none⟩) e4).trans b0
 have b1 := (World.cell?_of_block (a := ⟨w4.heap.size, 1, none⟩) e4).trans b1
 have b2 := (World.cell?_of_block (a := ⟨w4.heap.size, 2, none⟩) e4).trans b2
 have b3 := (World.cell?_of_block (a := ⟨w4.heap.size, 3, none⟩) e4).trans b3
 have HC := hide hc
 clear hc hbx e4 a0 a1 a2 a3
 go_wp2_with fail
 refine (uh HC).mono ?_
 rintro r w9 ⟨rfl, U9, h9⟩
 have H9 := hide h9
 clear h9
 go_wp2_with fail
 go_ret
 exact ⟨rfl, T, U9, (uh H9).mono (by omega)⟩
end Go.Proofs.YtpeohbkigkfcgabGreatDoor
