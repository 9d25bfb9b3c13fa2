import Derived.Test.YtpeohbkigkfcgabGreatDoorGAX
import Derived.Test.YtpeohbkigkfcgabGreatDoorGAN
import Derived.Test.YtpeohbkigkfcgabGreatDoorGAZ
import Derived.Test.YtpeohbkigkfcgabGreatDoorGAY
import Derived.Test.YtpeohbkigkfcgabGreatDoorGAD
import Derived.Lib.SlBytesConst
import Derived.Test.YtpeohbkigkfcgabGreatDoorGAV
set_option linter.unusedVariables false
set_option linter.unusedSimpArgs false
set_option maxRecDepth 100000
set_option maxHeartbeats 16000000
namespace Go.Proofs.YtpeohbkigkfcgabGreatDoor
open Go Go.ChangeShapes Go.WideShapes Go.ChangeAt Go.RowKit
attribute [local go_sem] setCell_drewN alloc_drewN
theorem changes_any {w0 w : World} {y N j : Nat} {T : Nat -> Option Tw} {U : Nat -> Prop} (h : PlayIs w0 w y N T U) (hj : j < 3) {t : Tw} (ht : T j = some t) (hN : N < 800000) (o : OpV) (hd : o.d = (j : Int)) (hk : (3 <= o.kd /\ o.kd <= 7) \/ o.kd = 12 \/ o.kd = 14) (ho : OpIn w0 o) :
  Calls Tryz.prog 15 #[.pointer (some ⟨y, 0, none⟩), o.val] w fun e w' => e = .returned (.bool true) /\ ∃ T' U', PlayIs w0 w' y (N + 64) T' U' := by
 have hc : o.kd = 3 \/ o.kd = 4 \/ o.kd = 5 \/ o.kd = 6 \/ o.kd = 7 \/ o.kd = 12 \/ o.kd = 14 := by omega
 rcases hc with e | e | e | e | e | e | e
 ·exact changes_create h hj ht hN o hd e ho
 ·exact changes_append h hj ht hN o hd e ho
 ·exact changes_sync h hj ht hN o hd e ho
 ·exact changes_rename h hj ht hN o hd e ho
 ·exact changes_remove h hj ht hN o hd e ho
 ·exact changes_fuse h hj ht hN o hd e ho
 ·exact changes_crash h hj ht hN o hd e ho
theorem looks_any {w0 w : World} {y N j : Nat} {T : Nat -> Option Tw} {U : Nat -> Prop} (h : PlayIs w0 w y N T U) (hj : j < 3) {t : Tw} (ht : T j = some t) (hN : N < 800000) (o : OpV) (hd : o.d = (j : Int)) (hk : 8 <= o.kd /\ o.kd <= 15 /\ o.kd ≠ 12 /\ o.kd ≠ 14) (ho : OpIn w0 o) :
  Calls Tryz.prog 16 #[.pointer (some ⟨y, 0, none⟩), o.val] w fun e w' => e = .returned (.bool true) /\ ∃ T' U', PlayIs w0 w' y (N + 64) T' U' := by
 have hc : o.kd = 8 \/ o.kd = 9 \/ o.kd = 10 \/ o.kd = 11 \/ o.kd = 13 \/ o.kd = 15 := by omega
 rcases hc with e | e | e | e | e | e
 ·exact looks_read h hj ht hN o hd e ho
 ·exact looks_size h hj ht hN o hd e ho
 ·exact looks_list h hj ht hN o hd e ho
 ·exact looks_free h hj ht hN o hd e ho
 ·exact looks_down h hj ht hN o hd e ho
 ·exact looks_state h hj ht hN o hd e ho
theorem made_any {w0 w : World} {y N j : Nat} {T : Nat -> Option Tw} {U : Nat -> Prop} (h : PlayIs w0 w y N T U) (hj : j < 3) (hN : N < 800000) (o : OpV) (hd : o.d = (j : Int)) (hk : o.kd = 1 \/ o.kd = 2 \/ o.kd = 16) (ho : OpIn w0 o) :
  Calls Tryz.prog 14 #[.pointer (some ⟨y, 0, none⟩), o.val] w fun e w' => e = .returned (.bool true) /\ ∃ T' U', PlayIs w0 w' y (N + 64) T' U' := by
 rcases hk with e | e | e
 ·cases hx : canBe 0 o.n with
  | true => exact made_newY h hj hN o hd e ho hx
  | false => exact made_newN h hj hN o hd e ho hx
 ·cases hv : validV o.cp o.fs o.fu o.dn with
  | true => exact made_fromY h hj hN o hd e ho hv
  | false => exact made_fromN h hj hN o hd e ho hv
 ·cases ht : T j with
  | none => exact made_againNone h hj hN o hd e ho ht
  | some t =>
   cases hv : validV t.K.cap (t.K.A.map toFV) t.K.fuse t.K.down with
   | true => exact made_againY h hj hN o hd e ho ht hv
   | false => exact made_againN h hj hN o hd e ho ht hv
theorem step_nodisk {w0 w : World} {y N : Nat} {T : Nat -> Option Tw} {U : Nat -> Prop} (h : PlayIs w0 w y N T U) (o : OpV) (hd : o.d < 0 \/ (¬ o.d < 0 /\ 2 < o.d)) :
  Calls Tryz.prog 6 #[.pointer (some ⟨y, 0, none⟩), o.val] w fun e w' => e = .returned (.bool true) /\ ∃ T' U', PlayIs w0 w' y (N + 64) T' U' := by
 obtain ⟨D, hD⟩ : ∃ D, D = o.d := ⟨_, rfl⟩
 have HF : Hid (∀ W, Below w.heap.size w W -> PlayIs w0 W y N T U) := fun W hb => h.below hb
 unfold OpV.val
 rw [<- hD] at hd ⊢
 clear h hD
 rcases hd with hd | ⟨hd, hd2⟩
 ·go_enter Tryz.func6, Tryz.ntmps6
  go_wp2_with fail
  go_ret
  exact ⟨rfl, T, U, (uh HF _ (bal (Below.refl _ _) _)).mono (by omega)⟩
 ·go_enter Tryz.func6, Tryz.ntmps6
  go_wp2_with fail
  go_ret
  exact ⟨rfl, T, U, (uh HF _ (bal (Below.refl _ _) _)).mono (by omega)⟩
theorem step_made1 {w0 w : World} {y N j : Nat} {T : Nat -> Option Tw} {U : Nat -> Prop} (h : PlayIs w0 w y N T U) (hj : j < 3) (hN : N < 800000) (o : OpV) (hd : o.d = (j : Int)) (ho : OpIn w0 o) (hk : o.kd = 1) :
  Calls Tryz.prog 6 #[.pointer (some ⟨y, 0, none⟩), o.val] w fun e w' => e = .returned (.bool true) /\ ∃ T' U', PlayIs w0 w' y (N + 64) T' U' := by
 have hyl := h.kb.lt
 obtain ⟨KD, hKD⟩ : ∃ KD, KD = o.kd := ⟨_, rfl⟩
 obtain ⟨w1, hw1⟩ : ∃ w1, w1 = w.alloc (.cells #[.int .i64 (j : Int), .int .i64 KD, .string o.nm, .string o.to, .slice o.pu o.b2.length o.cu, .int .i64 o.pos, .int .i64 o.n, .slice o.pk o.ks.length o.ck, .int .i64 o.cp, .slice o.pf o.fs.length o.cf, .int .i64 o.fu, .bool o.dn] 61) := ⟨_, rfl⟩
 have B1 : Hid (Below w.heap.size w w1) := by rw [hw1]; exact bal (Below.refl _ _) _
 have e0 : w1.cell? ⟨w.heap.size, 0, none⟩ = some (.int .i64 (j : Int)) := by rw [hw1]; simp
 have e1 : w1.cell? ⟨w.heap.size, 1, none⟩ = some (.int .i64 KD) := by rw [hw1]; simp
 have b2 : w1.cell? ⟨w.heap.size, 2, none⟩ = some (.string o.nm) := by rw [hw1]; simp
 have b3 : w1.cell? ⟨w.heap.size, 3, none⟩ = some (.string o.to) := by rw [hw1]; simp
 have b4 : w1.cell? ⟨w.heap.size, 4, none⟩ = some (.slice o.pu o.b2.length o.cu) := by rw [hw1]; simp
 have b5 : w1.cell? ⟨w.heap.size, 5, none⟩ = some (.int .i64 o.pos) := by rw [hw1]; simp
 have b6 : w1.cell? ⟨w.heap.size, 6, none⟩ = some (.int .i64 o.n) := by rw [hw1]; simp
 have b7 : w1.cell? ⟨w.heap.size, 7, none⟩ = some (.slice o.pk o.ks.length o.ck) := by rw [hw1]; simp
 have b8 : w1.cell? ⟨w.heap.size, 8, none⟩ = some (.int .i64 o.cp) := by rw [hw1]; simp
 have b9 : w1.cell? ⟨w.heap.size, 9, none⟩ = some (.slice o.pf o.fs.length o.cf) := by rw [hw1]; simp
 have b10 : w1.cell? ⟨w.heap.size, 10, none⟩ = some (.int .i64 o.fu) := by rw [hw1]; simp
 have b11 : w1.cell? ⟨w.heap.size, 11, none⟩ = some (.bool o.dn) := by rw [hw1]; simp
 have HF : Hid (∀ W, Below w.heap.size w W -> PlayIs w0 W y N T U) := fun W hb => h.below hb
 have HC : Hid (Calls Tryz.prog 14 #[.pointer (some ⟨y, 0, none⟩), .agg #[.int .i64 (j : Int), .int .i64 KD, .string o.nm, .string o.to, .slice o.pu o.b2.length o.cu, .int .i64 o.pos, .int .i64 o.n, .slice o.pk o.ks.length o.ck, .int .i64 o.cp, .slice o.pf o.fs.length o.cf, .int .i64 o.fu, .bool o.dn]] w1 fun e w' => e = .returned (.bool true) /\ ∃ T' U', PlayIs w0 w' y (N + 64) T' U') := by
  have h9 := made_any (h.below (uh B1)) hj hN o hd (by omega) ho
  unfold OpV.val at h9
  rw [hd, <- hKD] at h9
  exact h9
 have hk1 : KD = 1 := by omega
 subst hk1
 have hjI : (0 : Int) <= (j : Int) := by omega
 have hjI3 : ¬ (j : Int) < 0 := by omega
 have hjI4 : (j : Int) < 3 := by omega
 have hjI5 : ¬ (2 : Int) < (j : Int) := by omega
 unfold OpV.val
 rw [hd, <- hKD]
 clear h hd ho hKD hk
 go_enter Tryz.func6, Tryz.ntmps6
 go_wp2_with fail
 rw [<- hw1]
 clear hw1
 go_wp2_with fail
 refine (uh HC).mono ?_
 rintro r w2 ⟨rfl, h2⟩
 have H2 := hide h2
 clear h2
 go_wp2_with fail
 go_ret
 exact ⟨rfl, uh H2⟩
theorem step_made2 {w0 w : World} {y N j : Nat} {T : Nat -> Option Tw} {U : Nat -> Prop} (h : PlayIs w0 w y N T U) (hj : j < 3) (hN : N < 800000) (o : OpV) (hd : o.d = (j : Int)) (ho : OpIn w0 o) (hk : o.kd = 2) :
  Calls Tryz.prog 6 #[.pointer (some ⟨y, 0, none⟩), o.val] w fun e w' => e = .returned (.bool true) /\ ∃ T' U', PlayIs w0 w' y (N + 64) T' U' := by
 have hyl := h.kb.lt
 obtain ⟨KD, hKD⟩ : ∃ KD, KD = o.kd := ⟨_, rfl⟩
 obtain ⟨w1, hw1⟩ : ∃ w1, w1 = w.alloc (.cells #[.int .i64 (j : Int), .int .i64 KD, .string o.nm, .string o.to, .slice o.pu o.b2.length o.cu, .int .i64 o.pos, .int .i64 o.n, .slice o.pk o.ks.length o.ck, .int .i64 o.cp, .slice o.pf o.fs.length o.cf, .int .i64 o.fu, .bool o.dn] 61) := ⟨_, rfl⟩
 have B1 : Hid (Below w.heap.size w w1) := by rw [hw1]; exact bal (Below.refl _ _) _
 have e0 : w1.cell? ⟨w.heap.size, 0, none⟩ = some (.int .i64 (j : Int)) := by rw [hw1]; simp
 have e1 : w1.cell? ⟨w.heap.size, 1, none⟩ = some (.int .i64 KD) := by rw [hw1]; simp
 have b2 : w1.cell? ⟨w.heap.size, 2, none⟩ = some (.string o.nm) := by rw [hw1]; simp
 have b3 : w1.cell? ⟨w.heap.size, 3, none⟩ = some (.string o.to) := by rw [hw1]; simp
 have b4 : w1.cell? ⟨w.heap.size, 4, none⟩ = some (.slice o.pu o.b2.length o.cu) := by rw [hw1]; simp
 have b5 : w1.cell? ⟨w.heap.size, 5, none⟩ = some (.int .i64 o.pos) := by rw [hw1]; simp
 have b6 : w1.cell? ⟨w.heap.size, 6, none⟩ = some (.int .i64 o.n) := by rw [hw1]; simp
 have b7 : w1.cell? ⟨w.heap.size, 7, none⟩ = some (.slice o.pk o.ks.length o.ck) := by rw [hw1]; simp
 have b8 : w1.cell? ⟨w.heap.size, 8, none⟩ = some (.int .i64 o.cp) := by rw [hw1]; simp
 have b9 : w1.cell? ⟨w.heap.size, 9, none⟩ = some (.slice o.pf o.fs.length o.cf) := by rw [hw1]; simp
 have b10 : w1.cell? ⟨w.heap.size, 10, none⟩ = some (.int .i64 o.fu) := by rw [hw1]; simp
 have b11 : w1.cell? ⟨w.heap.size, 11, none⟩ = some (.bool o.dn) := by rw [hw1]; simp
 have HF : Hid (∀ W, Below w.heap.size w W -> PlayIs w0 W y N T U) := fun W hb => h.below hb
 have HC : Hid (Calls Tryz.prog 14 #[.pointer (some ⟨y, 0, none⟩), .agg #[.int .i64 (j : Int), .int .i64 KD, .string o.nm, .string o.to, .slice o.pu o.b2.length o.cu, .int .i64 o.pos, .int .i64 o.n, .slice o.pk o.ks.length o.ck, .int .i64 o.cp, .slice o.pf o.fs.length o.cf, .int .i64 o.fu, .bool o.dn]] w1 fun e w' => e = .returned (.bool true) /\ ∃ T' U', PlayIs w0 w' y (N + 64) T' U') := by
  have h9 := made_any (h.below (uh B1)) hj hN o hd (by omega) ho
  unfold OpV.val at h9
  rw [hd, <- hKD] at h9
  exact h9
 have hk1 : KD = 2 := by omega
 subst hk1
 have hjI : (0 : Int) <= (j : Int) := by omega
 have hjI3 : ¬ (j : Int) < 0 := by omega
 have hjI4 : (j : Int) < 3 := by omega
 have hjI5 : ¬ (2 : Int) < (j : Int) := by omega
 unfold OpV.val
 rw [hd, <- hKD]
 clear h hd ho hKD hk
 go_enter Tryz.func6, Tryz.ntmps6
 go_wp2_with fail
 rw [<- hw1]
 clear hw1
 go_wp2_with fail
 refine (uh HC).mono ?_
 rintro r w2 ⟨rfl, h2⟩
 have H2 := hide h2
 clear h2
 go_wp2_with fail
 go_ret
 exact ⟨rfl, uh H2⟩
theorem step_made16 {w0 w : World} {y N j : Nat} {T : Nat -> Option Tw} {U : Nat -> Prop} (h : PlayIs w0 w y N T U) (hj : j < 3) (hN : N < 800000) (o : OpV) (hd : o.d = (j : Int)) (ho : OpIn w0 o) (hk : o.kd = 16) :
  Calls Tryz.prog 6 #[.pointer (some ⟨y, 0, none⟩), o.val] w fun e w' => e = .returned (.bool true) /\ ∃ T' U', PlayIs w0 w' y (N + 64) T' U' := by
 have hyl := h.kb.lt
 obtain ⟨KD, hKD⟩ : ∃ KD, KD = o.kd := ⟨_, rfl⟩
 obtain ⟨w1, hw1⟩ : ∃ w1, w1 = w.alloc (.cells #[.int .i64 (j : Int), .int .i64 KD, .string o.nm, .string o.to, .slice o.pu o.b2.length o.cu, .int .i64 o.pos, .int .i64 o.n, .slice o.pk o.ks.length o.ck, .int .i64 o.cp, .slice o.pf o.fs.length o.cf, .int .i64 o.fu, .bool o.dn] 61) := ⟨_, rfl⟩
 have B1 : Hid (Below w.heap.size w w1) := by rw [hw1]; exact bal (Below.refl _ _) _
 have e0 : w1.cell? ⟨w.heap.size, 0, none⟩ = some (.int .i64 (j : Int)) := by rw [hw1]; simp
 have e1 : w1.cell? ⟨w.heap.size, 1, none⟩ = some (.int .i64 KD) := by rw [hw1]; simp
 have b2 : w1.cell? ⟨w.heap.size, 2, none⟩ = some (.string o.nm) := by rw [hw1]; simp
 have b3 : w1.cell? ⟨w.heap.size, 3, none⟩ = some (.string o.to) := by rw [hw1]; simp
 have b4 : w1.cell? ⟨w.heap.size, 4, none⟩ = some (.slice o.pu o.b2.length o.cu) := by rw [hw1]; simp
 have b5 : w1.cell? ⟨w.heap.size, 5, none⟩ = some (.int .i64 o.pos) := by rw [hw1]; simp
 have b6 : w1.cell? ⟨w.heap.size, 6, none⟩ = some (.int .i64 o.n) := by rw [hw1]; simp
 have b7 : w1.cell? ⟨w.heap.size, 7, none⟩ = some (.slice o.pk o.ks.length o.ck) := by rw [hw1]; simp
 have b8 : w1.cell? ⟨w.heap.size, 8, none⟩ = some (.int .i64 o.cp) := by rw [hw1]; simp
 have b9 : w1.cell? ⟨w.heap.size, 9, none⟩ = some (.slice o.pf o.fs.length o.cf) := by rw [hw1]; simp
 have b10 : w1.cell? ⟨w.heap.size, 10, none⟩ = some (.int .i64 o.fu) := by rw [hw1]; simp
 have b11 : w1.cell? ⟨w.heap.size, 11, none⟩ = some (.bool o.dn) := by rw [hw1]; simp
 have HF : Hid (∀ W, Below w.heap.size w W -> PlayIs w0 W y N T U) := fun W hb => h.below hb
 have HC : Hid (Calls Tryz.prog 14 #[.pointer (some ⟨y, 0, none⟩), .agg #[.int .i64 (j : Int), .int .i64 KD, .string o.nm, .string o.to, .slice o.pu o.b2.length o.cu, .int .i64 o.pos, .int .i64 o.n, .slice o.pk o.ks.length o.ck, .int .i64 o.cp, .slice o.pf o.fs.length o.cf, .int .i64 o.fu, .bool o.dn]] w1 fun e w' => e = .returned (.bool true) /\ ∃ T' U', PlayIs w0 w' y (N + 64) T' U') := by
  have h9 := made_any (h.below (uh B1)) hj hN o hd (by omega) ho
  unfold OpV.val at h9
  rw [hd, <- hKD] at h9
  exact h9
 have hk1 : KD = 16 := by omega
 subst hk1
 have hjI : (0 : Int) <= (j : Int) := by omega
 have hjI3 : ¬ (j : Int) < 0 := by omega
 have hjI4 : (j : Int) < 3 := by omega
 have hjI5 : ¬ (2 : Int) < (j : Int) := by omega
 unfold OpV.val
 rw [hd, <- hKD]
 clear h hd ho hKD hk
 go_enter Tryz.func6, Tryz.ntmps6
 go_wp2_with fail
 rw [<- hw1]
 clear hw1
 go_wp2_with fail
 refine (uh HC).mono ?_
 rintro r w2 ⟨rfl, h2⟩
 have H2 := hide h2
 clear h2
 go_wp2_with fail
 go_ret
 exact ⟨rfl, uh H2⟩
theorem step_none {w0 w : World} {y N j : Nat} {T : Nat -> Option Tw} {U : Nat -> Prop} (h : PlayIs w0 w y N T U) (hj : j < 3) (hN : N < 800000) (o : OpV) (hd : o.d = (j : Int)) (ho : OpIn w0 o) (ht : T j = none) (hk : o.kd ≠ 1 /\ o.kd ≠ 2 /\ o.kd ≠ 16) :
  Calls Tryz.prog 6 #[.pointer (some ⟨y, 0, none⟩), o.val] w fun e w' => e = .returned (.bool true) /\ ∃ T' U', PlayIs w0 w' y (N + 64) T' U' := by
 have hyl := h.kb.lt
 obtain ⟨KD, hKD⟩ : ∃ KD, KD = o.kd := ⟨_, rfl⟩
 obtain ⟨w1, hw1⟩ : ∃ w1, w1 = w.alloc (.cells #[.int .i64 (j : Int), .int .i64 KD, .string o.nm, .string o.to, .slice o.pu o.b2.length o.cu, .int .i64 o.pos, .int .i64 o.n, .slice o.pk o.ks.length o.ck, .int .i64 o.cp, .slice o.pf o.fs.length o.cf, .int .i64 o.fu, .bool o.dn] 61) := ⟨_, rfl⟩
 have B1 : Hid (Below w.heap.size w w1) := by rw [hw1]; exact bal (Below.refl _ _) _
 have e0 : w1.cell? ⟨w.heap.size, 0, none⟩ = some (.int .i64 (j : Int)) := by rw [hw1]; simp
 have e1 : w1.cell? ⟨w.heap.size, 1, none⟩ = some (.int .i64 KD) := by rw [hw1]; simp
 have HF : Hid (∀ W, Below w.heap.size w W -> PlayIs w0 W y N T U) := fun W hb => h.below hb
 have hp1 := h.p j hj
 have hd1 := h.d j hj
 rw [ht] at hp1 hd1
 have p1 : w1.cell? ⟨y, j, none⟩ = some (.pointer none) := keep1 (uh B1) hyl hp1
 have d1 : w1.cell? ⟨y, 3 + j, none⟩ = some (.pointer none) := keep1 (uh B1) hyl hd1
 clear hp1 hd1
 have k1 : ¬ KD = 1 := by omega
 have k2 : ¬ KD = 2 := by omega
 have k16 : ¬ KD = 16 := by omega
 have q1 : decide (KD = 1) = false := decide_eq_false k1
 have q2 : decide (KD = 2) = false := decide_eq_false k2
 have q16 : decide (KD = 16) = false := decide_eq_false k16
 have r1 : (KD == 1) = false := by simp [k1]
 have r2 : (KD == 2) = false := by simp [k2]
 have r16 : (KD == 16) = false := by simp [k16]
 have hjI : (0 : Int) <= (j : Int) := by omega
 have hjI3 : ¬ (j : Int) < 0 := by omega
 have hjI4 : (j : Int) < 3 := by omega
 have hjI5 : ¬ (2 : Int) < (j : Int) := by omega
 unfold OpV.val
 rw [hd, <- hKD]
 clear h hd ho hKD ht hk
 go_enter Tryz.func6, Tryz.ntmps6
 go_wp2_with fail
 rw [<- hw1]
 clear hw1
 go_wp2_with fail
 refine wp_region_last (n := 28) (S := fun W => W.cell? ⟨w.heap.size, 0, none⟩ = some (.int .i64 (j : Int)) /\ W.cell? ⟨w.heap.size, 1, none⟩ = some (.int .i64 KD) /\ W.cell? ⟨y, j, none⟩ = some (.pointer none) /\ W.cell? ⟨y, 3 + j, none⟩ = some (.pointer none)) (by kernel_rfl) (by first | (exact ⟨e0, e1, p1, d1⟩)) (fun hHeld => ?_)
 refine tkW 0 ?_; refine tkW 1 ?_; refine tkN 2 ?_; refine tkW 3 ?_; refine tkW 4 ?_; refine tkW 5 ?_; refine tkN 6 ?_; refine tkW 7 ?_; refine tkW 8 ?_; refine tkX 9 ?_; refine tkX 10 ?_
 refine tkX 11 ?_; refine tkX 12 ?_; refine tkX 13 ?_; refine tkX 14 ?_; refine tkX 15 ?_; refine tkX 16 ?_; refine tkW 17 ?_; refine tkW 18 ?_; refine tkX 19 ?_; refine tkX 20 ?_
 refine tkX 21 ?_; refine tkW 22 ?_; refine tkW 23 ?_; refine tkX 24 ?_; refine tkX 25 ?_; refine tkX 26 ?_; refine tkW 27 ?_
 refine wpAnyL_done (by kernel_rfl) ?_
 go_wp2_with fail
 go_ret
 exact ⟨rfl, T, U, (uh HF _ (uh B1).drew).mono (by omega)⟩
theorem step_low {w0 w : World} {y N j : Nat} {T : Nat -> Option Tw} {U : Nat -> Prop} (h : PlayIs w0 w y N T U) (hj : j < 3) (hN : N < 800000) (o : OpV) (hd : o.d = (j : Int)) (ho : OpIn w0 o) {t : Tw} (ht : T j = some t) (hk : o.kd < 1) :
  Calls Tryz.prog 6 #[.pointer (some ⟨y, 0, none⟩), o.val] w fun e w' => e = .returned (.bool true) /\ ∃ T' U', PlayIs w0 w' y (N + 64) T' U' := by
 have hyl := h.kb.lt
 obtain ⟨KD, hKD⟩ : ∃ KD, KD = o.kd := ⟨_, rfl⟩
 obtain ⟨w1, hw1⟩ : ∃ w1, w1 = w.alloc (.cells #[.int .i64 (j : Int), .int .i64 KD, .string o.nm, .string o.to, .slice o.pu o.b2.length o.cu, .int .i64 o.pos, .int .i64 o.n, .slice o.pk o.ks.length o.ck, .int .i64 o.cp, .slice o.pf o.fs.length o.cf, .int .i64 o.fu, .bool o.dn] 61) := ⟨_, rfl⟩
 have B1 : Hid (Below w.heap.size w w1) := by rw [hw1]; exact bal (Below.refl _ _) _
 have e0 : w1.cell? ⟨w.heap.size, 0, none⟩ = some (.int .i64 (j : Int)) := by rw [hw1]; simp
 have e1 : w1.cell? ⟨w.heap.size, 1, none⟩ = some (.int .i64 KD) := by rw [hw1]; simp
 have HF : Hid (∀ W, Below w.heap.size w W -> PlayIs w0 W y N T U) := fun W hb => h.below hb
 have hp1 := h.p j hj
 have hd1 := h.d j hj
 rw [ht] at hp1 hd1
 have p1 : w1.cell? ⟨y, j, none⟩ = some (.pointer (some ⟨t.pb, 0, none⟩)) := keep1 (uh B1) hyl hp1
 have d1 : w1.cell? ⟨y, 3 + j, none⟩ = some (.pointer (some ⟨t.rb, 0, none⟩)) := keep1 (uh B1) hyl hd1
 clear hp1 hd1
 have k1 : ¬ KD = 1 := by omega
 have k2 : ¬ KD = 2 := by omega
 have k16 : ¬ KD = 16 := by omega
 have q1 : decide (KD = 1) = false := decide_eq_false k1
 have q2 : decide (KD = 2) = false := decide_eq_false k2
 have q16 : decide (KD = 16) = false := decide_eq_false k16
 have r1 : (KD == 1) = false := by simp [k1]
 have r2 : (KD == 2) = false := by simp [k2]
 have r16 : (KD == 16) = false := by simp [k16]
 have kl : KD < 1 := by omega
 have hjI : (0 : Int) <= (j : Int) := by omega
 have hjI3 : ¬ (j : Int) < 0 := by omega
 have hjI4 : (j : Int) < 3 := by omega
 have hjI5 : ¬ (2 : Int) < (j : Int) := by omega
 unfold OpV.val
 rw [hd, <- hKD]
 clear h hd ho hKD ht hk
 go_enter Tryz.func6, Tryz.ntmps6
 go_wp2_with fail
 rw [<- hw1]
 clear hw1
 go_wp2_with fail
 refine wp_region_last (n := 28) (S := fun W => W.cell? ⟨w.heap.size, 0, none⟩ = some (.int .i64 (j : Int)) /\ W.cell? ⟨w.heap.size, 1, none⟩ = some (.int .i64 KD) /\ W.cell? ⟨y, j, none⟩ = some (.pointer (some ⟨t.pb, 0, none⟩)) /\ W.cell? ⟨y, 3 + j, none⟩ = some (.pointer (some ⟨t.rb, 0, none⟩))) (by kernel_rfl) (by first | (exact ⟨e0, e1, p1, d1⟩)) (fun hHeld => ?_)
 refine tkW 0 ?_; refine tkW 1 ?_; refine tkN 2 ?_; refine tkW 3 ?_; refine tkW 4 ?_; refine tkW 5 ?_; refine tkN 6 ?_; refine tkW 7 ?_; refine tkW 8 ?_; refine tkW 9 ?_; refine tkW 10 ?_
 refine tkN 11 ?_; refine tkW 12 ?_; refine tkW 13 ?_; refine tkW 14 ?_; refine tkN 15 ?_; refine tkW 16 ?_; refine tkW 17 ?_; refine tkW 18 ?_; refine tkW 19 ?_; refine tkN 20 ?_
 refine tkW 21 ?_; refine tkW 22 ?_; refine tkW 23 ?_; refine tkX 24 ?_; refine tkX 25 ?_; refine tkX 26 ?_; refine tkW 27 ?_
 refine wpAnyL_done (by kernel_rfl) ?_
 go_wp2_with fail
 go_ret
 exact ⟨rfl, T, U, (uh HF _ (uh B1).drew).mono (by omega)⟩
theorem step_high {w0 w : World} {y N j : Nat} {T : Nat -> Option Tw} {U : Nat -> Prop} (h : PlayIs w0 w y N T U) (hj : j < 3) (hN : N < 800000) (o : OpV) (hd : o.d = (j : Int)) (ho : OpIn w0 o) {t : Tw} (ht : T j = some t) (hk : 16 < o.kd) :
  Calls Tryz.prog 6 #[.pointer (some ⟨y, 0, none⟩), o.val] w fun e w' => e = .returned (.bool true) /\ ∃ T' U', PlayIs w0 w' y (N + 64) T' U' := by
 have hyl := h.kb.lt
 obtain ⟨KD, hKD⟩ : ∃ KD, KD = o.kd := ⟨_, rfl⟩
 obtain ⟨w1, hw1⟩ : ∃ w1, w1 = w.alloc (.cells #[.int .i64 (j : Int), .int .i64 KD, .string o.nm, .string o.to, .slice o.pu o.b2.length o.cu, .int .i64 o.pos, .int .i64 o.n, .slice o.pk o.ks.length o.ck, .int .i64 o.cp, .slice o.pf o.fs.length o.cf, .int .i64 o.fu, .bool o.dn] 61) := ⟨_, rfl⟩
 have B1 : Hid (Below w.heap.size w w1) := by rw [hw1]; exact bal (Below.refl _ _) _
 have e0 : w1.cell? ⟨w.heap.size, 0, none⟩ = some (.int .i64 (j : Int)) := by rw [hw1]; simp
 have e1 : w1.cell? ⟨w.heap.size, 1, none⟩ = some (.int .i64 KD) := by rw [hw1]; simp
 have HF : Hid (∀ W, Below w.heap.size w W -> PlayIs w0 W y N T U) := fun W hb => h.below hb
 have hp1 := h.p j hj
 have hd1 := h.d j hj
 rw [ht] at hp1 hd1
 have p1 : w1.cell? ⟨y, j, none⟩ = some (.pointer (some ⟨t.pb, 0, none⟩)) := keep1 (uh B1) hyl hp1
 have d1 : w1.cell? ⟨y, 3 + j, none⟩ = some (.pointer (some ⟨t.rb, 0, none⟩)) := keep1 (uh B1) hyl hd1
 clear hp1 hd1
 have k1 : ¬ KD = 1 := by omega
 have k2 : ¬ KD = 2 := by omega
 have k16 : ¬ KD = 16 := by omega
 have q1 : decide (KD = 1) = false := decide_eq_false k1
 have q2 : decide (KD = 2) = false := decide_eq_false k2
 have q16 : decide (KD = 16) = false := decide_eq_false k16
 have r1 : (KD == 1) = false := by simp [k1]
 have r2 : (KD == 2) = false := by simp [k2]
 have r16 : (KD == 16) = false := by simp [k16]
 have kl : ¬ KD < 1 := by omega
 have kg : 16 < KD := by omega
 have ql : decide (KD < 1) = false := decide_eq_false kl
 have qg : decide (16 < KD) = true := decide_eq_true kg
 have qh : decide (KD > 16) = true := decide_eq_true kg
 have hjI : (0 : Int) <= (j : Int) := by omega
 have hjI3 : ¬ (j : Int) < 0 := by omega
 have hjI4 : (j : Int) < 3 := by omega
 have hjI5 : ¬ (2 : Int) < (j : Int) := by omega
 unfold OpV.val
 rw [hd, <- hKD]
 clear h hd ho hKD ht hk
 go_enter Tryz.func6, Tryz.ntmps6
 go_wp2_with fail
 rw [<- hw1]
 clear hw1
 go_wp2_with fail
 refine wp_region_last (n := 28) (S := fun W => W.cell? ⟨w.heap.size, 0, none⟩ = some (.int .i64 (j : Int)) /\ W.cell? ⟨w.heap.size, 1, none⟩ = some (.int .i64 KD) /\ W.cell? ⟨y, j, none⟩ = some (.pointer (some ⟨t.pb, 0, none⟩)) /\ W.cell? ⟨y, 3 + j, none⟩ = some (.pointer (some ⟨t.rb, 0, none⟩))) (by kernel_rfl) (by first | (exact ⟨e0, e1, p1, d1⟩)) (fun hHeld => ?_)
 refine tkW 0 ?_; refine tkW 1 ?_; refine tkN 2 ?_; refine tkW 3 ?_; refine tkW 4 ?_; refine tkW 5 ?_; refine tkN 6 ?_; refine tkW 7 ?_; refine tkW 8 ?_; refine tkW 9 ?_; refine tkW 10 ?_
 refine tkN 11 ?_; refine tkW 12 ?_; refine tkW 13 ?_; refine tkW 14 ?_; refine tkN 15 ?_; refine tkW 16 ?_; refine tkW 17 ?_; refine tkW 18 ?_; refine tkW 19 ?_; refine tkN 20 ?_
 refine tkW 21 ?_; refine tkW 22 ?_; refine tkW 23 ?_; refine tkW 24 ?_; refine tkN 25 ?_; refine tkW 26 ?_; refine tkW 27 ?_
 refine wpAnyL_done (by kernel_rfl) ?_
 go_wp2_with fail
 go_ret
 exact ⟨rfl, T, U, (uh HF _ (uh B1).drew).mono (by omega)⟩
theorem step_chg12 {w0 w : World} {y N j : Nat} {T : Nat -> Option Tw} {U : Nat -> Prop} (h : PlayIs w0 w y N T U) (hj : j < 3) (hN : N < 800000) (o : OpV) (hd : o.d = (j : Int)) (ho : OpIn w0 o) {t : Tw} (ht : T j = some t) (hk : o.kd = 12) :
  Calls Tryz.prog 6 #[.pointer (some ⟨y, 0, none⟩), o.val] w fun e w' => e = .returned (.bool true) /\ ∃ T' U', PlayIs w0 w' y (N + 64) T' U' := by
 have hyl := h.kb.lt
 obtain ⟨KD, hKD⟩ : ∃ KD, KD = o.kd := ⟨_, rfl⟩
 obtain ⟨w1, hw1⟩ : ∃ w1, w1 = w.alloc (.cells #[.int .i64 (j : Int), .int .i64 KD, .string o.nm, .string o.to, .slice o.pu o.b2.length o.cu, .int .i64 o.pos, .int .i64 o.n, .slice o.pk o.ks.length o.ck, .int .i64 o.cp, .slice o.pf o.fs.length o.cf, .int .i64 o.fu, .bool o.dn] 61) := ⟨_, rfl⟩
 have B1 : Hid (Below w.heap.size w w1) := by rw [hw1]; exact bal (Below.refl _ _) _
 have e0 : w1.cell? ⟨w.heap.size, 0, none⟩ = some (.int .i64 (j : Int)) := by rw [hw1]; simp
 have e1 : w1.cell? ⟨w.heap.size, 1, none⟩ = some (.int .i64 KD) := by rw [hw1]; simp
 have b2 : w1.cell? ⟨w.heap.size, 2, none⟩ = some (.string o.nm) := by rw [hw1]; simp
 have b3 : w1.cell? ⟨w.heap.size, 3, none⟩ = some (.string o.to) := by rw [hw1]; simp
 have b4 : w1.cell? ⟨w.heap.size, 4, none⟩ = some (.slice o.pu o.b2.length o.cu) := by rw [hw1]; simp
 have b5 : w1.cell? ⟨w.heap.size, 5, none⟩ = some (.int .i64 o.pos) := by rw [hw1]; simp
 have b6 : w1.cell? ⟨w.heap.size, 6, none⟩ = some (.int .i64 o.n) := by rw [hw1]; simp
 have b7 : w1.cell? ⟨w.heap.size, 7, none⟩ = some (.slice o.pk o.ks.length o.ck) := by rw [hw1]; simp
 have b8 : w1.cell? ⟨w.heap.size, 8, none⟩ = some (.int .i64 o.cp) := by rw [hw1]; simp
 have b9 : w1.cell? ⟨w.heap.size, 9, none⟩ = some (.slice o.pf o.fs.length o.cf) := by rw [hw1]; simp
 have b10 : w1.cell? ⟨w.heap.size, 10, none⟩ = some (.int .i64 o.fu) := by rw [hw1]; simp
 have b11 : w1.cell? ⟨w.heap.size, 11, none⟩ = some (.bool o.dn) := by rw [hw1]; simp
 have HF : Hid (∀ W, Below w.heap.size w W -> PlayIs w0 W y N T U) := fun W hb => h.below hb
 have hp1 := h.p j hj
 have hd1 := h.d j hj
 rw [ht] at hp1 hd1
 have p1 : w1.cell? ⟨y, j, none⟩ = some (.pointer (some ⟨t.pb, 0, none⟩)) := keep1 (uh B1) hyl hp1
 have d1 : w1.cell? ⟨y, 3 + j, none⟩ = some (.pointer (some ⟨t.rb, 0, none⟩)) := keep1 (uh B1) hyl hd1
 clear hp1 hd1
 have HC : Hid (Calls Tryz.prog 15 #[.pointer (some ⟨y, 0, none⟩), .agg #[.int .i64 (j : Int), .int .i64 KD, .string o.nm, .string o.to, .slice o.pu o.b2.length o.cu, .int .i64 o.pos, .int .i64 o.n, .slice o.pk o.ks.length o.ck, .int .i64 o.cp, .slice o.pf o.fs.length o.cf, .int .i64 o.fu, .bool o.dn]] w1.drew fun e w' => e = .returned (.bool true) /\ ∃ T' U', PlayIs w0 w' y (N + 64) T' U') := by
  have h9 := changes_any (h.below (uh B1).drew) hj ht hN o hd (by omega) ho
  unfold OpV.val at h9
  rw [hd, <- hKD] at h9
  exact h9
 have hk1 : KD = 12 := by omega
 subst hk1
 have hjI : (0 : Int) <= (j : Int) := by omega
 have hjI3 : ¬ (j : Int) < 0 := by omega
 have hjI4 : (j : Int) < 3 := by omega
 have hjI5 : ¬ (2 : Int) < (j : Int) := by omega
 unfold OpV.val
 rw [hd, <- hKD]
 clear h hd ho hKD ht hk
 go_enter Tryz.func6, Tryz.ntmps6
 go_wp2_with fail
 rw [<- hw1]
 clear hw1
 go_wp2_with fail
 refine wp_region_last (n := 28) (S := fun W => W.cell? ⟨w.heap.size, 0, none⟩ = some (.int .i64 (j : Int)) /\ W.cell? ⟨w.heap.size, 1, none⟩ = some (.int .i64 12) /\ W.cell? ⟨y, j, none⟩ = some (.pointer (some ⟨t.pb, 0, none⟩)) /\ W.cell? ⟨y, 3 + j, none⟩ = some (.pointer (some ⟨t.rb, 0, none⟩))) (by kernel_rfl) (by first | (exact ⟨e0, e1, p1, d1⟩)) (fun hHeld => ?_)
 refine tkW 0 ?_; refine tkW 1 ?_; refine tkN 2 ?_; refine tkW 3 ?_; refine tkW 4 ?_; refine tkW 5 ?_; refine tkN 6 ?_; refine tkW 7 ?_; refine tkW 8 ?_; refine tkW 9 ?_; refine tkW 10 ?_
 refine tkN 11 ?_; refine tkW 12 ?_; refine tkW 13 ?_; refine tkW 14 ?_; refine tkN 15 ?_; refine tkW 16 ?_; refine tkW 17 ?_; refine tkW 18 ?_; refine tkW 19 ?_; refine tkN 20 ?_
 refine tkW 21 ?_; refine tkW 22 ?_; refine tkW 23 ?_; refine tkW 24 ?_; refine tkN 25 ?_; refine tkW 26 ?_; refine tkW 27 ?_
 refine wpAnyL_done (by kernel_rfl) ?_
 go_wp2_with fail
 refine (uh HC).mono ?_
 rintro r w2 ⟨rfl, h2⟩
 have H2 := hide h2
 clear h2
 go_wp2_with fail
 go_ret
 exact ⟨rfl, uh H2⟩
theorem step_chg14 {w0 w : World} {y N j : Nat} {T : Nat -> Option Tw} {U : Nat -> Prop} (h : PlayIs w0 w y N T U) (hj : j < 3) (hN : N < 800000) (o : OpV) (hd : o.d = (j : Int)) (ho : OpIn w0 o) {t : Tw} (ht : T j = some t) (hk : o.kd = 14) :
  Calls Tryz.prog 6 #[.pointer (some ⟨y, 0, none⟩), o.val] w fun e w' => e = .returned (.bool true) /\ ∃ T' U', PlayIs w0 w' y (N + 64) T' U' := by
 have hyl := h.kb.lt
 obtain ⟨KD, hKD⟩ : ∃ KD, KD = o.kd := ⟨_, rfl⟩
 obtain ⟨w1, hw1⟩ : ∃ w1, w1 = w.alloc (.cells #[.int .i64 (j : Int), .int .i64 KD, .string o.nm, .string o.to, .slice o.pu o.b2.length o.cu, .int .i64 o.pos, .int .i64 o.n, .slice o.pk o.ks.length o.ck, .int .i64 o.cp, .slice o.pf o.fs.length o.cf, .int .i64 o.fu, .bool o.dn] 61) := ⟨_, rfl⟩
 have B1 : Hid (Below w.heap.size w w1) := by rw [hw1]; exact bal (Below.refl _ _) _
 have e0 : w1.cell? ⟨w.heap.size, 0, none⟩ = some (.int .i64 (j : Int)) := by rw [hw1]; simp
 have e1 : w1.cell? ⟨w.heap.size, 1, none⟩ = some (.int .i64 KD) := by rw [hw1]; simp
 have b2 : w1.cell? ⟨w.heap.size, 2, none⟩ = some (.string o.nm) := by rw [hw1]; simp
 have b3 : w1.cell? ⟨w.heap.size, 3, none⟩ = some (.string o.to) := by rw [hw1]; simp
 have b4 : w1.cell? ⟨w.heap.size, 4, none⟩ = some (.slice o.pu o.b2.length o.cu) := by rw [hw1]; simp
 have b5 : w1.cell? ⟨w.heap.size, 5, none⟩ = some (.int .i64 o.pos) := by rw [hw1]; simp
 have b6 : w1.cell? ⟨w.heap.size, 6, none⟩ = some (.int .i64 o.n) := by rw [hw1]; simp
 have b7 : w1.cell? ⟨w.heap.size, 7, none⟩ = some (.slice o.pk o.ks.length o.ck) := by rw [hw1]; simp
 have b8 : w1.cell? ⟨w.heap.size, 8, none⟩ = some (.int .i64 o.cp) := by rw [hw1]; simp
 have b9 : w1.cell? ⟨w.heap.size, 9, none⟩ = some (.slice o.pf o.fs.length o.cf) := by rw [hw1]; simp
 have b10 : w1.cell? ⟨w.heap.size, 10, none⟩ = some (.int .i64 o.fu) := by rw [hw1]; simp
 have b11 : w1.cell? ⟨w.heap.size, 11, none⟩ = some (.bool o.dn) := by rw [hw1]; simp
 have HF : Hid (∀ W, Below w.heap.size w W -> PlayIs w0 W y N T U) := fun W hb => h.below hb
 have hp1 := h.p j hj
 have hd1 := h.d j hj
 rw [ht] at hp1 hd1
 have p1 : w1.cell? ⟨y, j, none⟩ = some (.pointer (some ⟨t.pb, 0, none⟩)) := keep1 (uh B1) hyl hp1
 have d1 : w1.cell? ⟨y, 3 + j, none⟩ = some (.pointer (some ⟨t.rb, 0, none⟩)) := keep1 (uh B1) hyl hd1
 clear hp1 hd1
 have HC : Hid (Calls Tryz.prog 15 #[.pointer (some ⟨y, 0, none⟩), .agg #[.int .i64 (j : Int), .int .i64 KD, .string o.nm, .string o.to, .slice o.pu o.b2.length o.cu, .int .i64 o.pos, .int .i64 o.n, .slice o.pk o.ks.length o.ck, .int .i64 o.cp, .slice o.pf o.fs.length o.cf, .int .i64 o.fu, .bool o.dn]] w1.drew fun e w' => e = .returned (.bool true) /\ ∃ T' U', PlayIs w0 w' y (N + 64) T' U') := by
  have h9 := changes_any (h.below (uh B1).drew) hj ht hN o hd (by omega) ho
  unfold OpV.val at h9
  rw [hd, <- hKD] at h9
  exact h9
 have hk1 : KD = 14 := by omega
 subst hk1
 have hjI : (0 : Int) <= (j : Int) := by omega
 have hjI3 : ¬ (j : Int) < 0 := by omega
 have hjI4 : (j : Int) < 3 := by omega
 have hjI5 : ¬ (2 : Int) < (j : Int) := by omega
 unfold OpV.val
 rw [hd, <- hKD]
 clear h hd ho hKD ht hk
 go_enter Tryz.func6, Tryz.ntmps6
 go_wp2_with fail
 rw [<- hw1]
 clear hw1
 go_wp2_with fail
 refine wp_region_last (n := 28) (S := fun W => W.cell? ⟨w.heap.size, 0, none⟩ = some (.int .i64 (j : Int)) /\ W.cell? ⟨w.heap.size, 1, none⟩ = some (.int .i64 14) /\ W.cell? ⟨y, j, none⟩ = some (.pointer (some ⟨t.pb, 0, none⟩)) /\ W.cell? ⟨y, 3 + j, none⟩ = some (.pointer (some ⟨t.rb, 0, none⟩))) (by kernel_rfl) (by first | (exact ⟨e0, e1, p1, d1⟩)) (fun hHeld => ?_)
 refine tkW 0 ?_; refine tkW 1 ?_; refine tkN 2 ?_; refine tkW 3 ?_; refine tkW 4 ?_; refine tkW 5 ?_; refine tkN 6 ?_; refine tkW 7 ?_; refine tkW 8 ?_; refine tkW 9 ?_; refine tkW 10 ?_
 refine tkN 11 ?_; refine tkW 12 ?_; refine tkW 13 ?_; refine tkW 14 ?_; refine tkN 15 ?_; refine tkW 16 ?_; refine tkW 17 ?_; refine tkW 18 ?_; refine tkW 19 ?_; refine tkN 20 ?_
 refine tkW 21 ?_; refine tkW 22 ?_; refine tkW 23 ?_; refine tkW 24 ?_; refine tkN 25 ?_; refine tkW 26 ?_; refine tkW 27 ?_
 refine wpAnyL_done (by kernel_rfl) ?_
 go_wp2_with fail
 refine (uh HC).mono ?_
 rintro r w2 ⟨rfl, h2⟩
 have H2 := hide h2
 clear h2
 go_wp2_with fail
 go_ret
 exact ⟨rfl, uh H2⟩
theorem step_chg {w0 w : World} {y N j : Nat} {T : Nat -> Option Tw} {U : Nat -> Prop} (h : PlayIs w0 w y N T U) (hj : j < 3) (hN : N < 800000) (o : OpV) (hd : o.d = (j : Int)) (ho : OpIn w0 o) {t : Tw} (ht : T j = some t) (hk : 3 <= o.kd /\ o.kd <= 7) :
  Calls Tryz.prog 6 #[.pointer (some ⟨y, 0, none⟩), o.val] w fun e w' => e = .returned (.bool true) /\ ∃ T' U', PlayIs w0 w' y (N + 64) T' U' := by
 have hyl := h.kb.lt
 obtain ⟨KD, hKD⟩ : ∃ KD, KD = o.kd := ⟨_, rfl⟩
 obtain ⟨w1, hw1⟩ : ∃ w1, w1 = w.alloc (.cells #[.int .i64 (j : Int), .int .i64 KD, .string o.nm, .string o.to, .slice o.pu o.b2.length o.cu, .int .i64 o.pos, .int .i64 o.n, .slice o.pk o.ks.length o.ck, .int .i64 o.cp, .slice o.pf o.fs.length o.cf, .int .i64 o.fu, .bool o.dn] 61) := ⟨_, rfl⟩
 have B1 : Hid (Below w.heap.size w w1) := by rw [hw1]; exact bal (Below.refl _ _) _
 have e0 : w1.cell? ⟨w.heap.size, 0, none⟩ = some (.int .i64 (j : Int)) := by rw [hw1]; simp
 have e1 : w1.cell? ⟨w.heap.size, 1, none⟩ = some (.int .i64 KD) := by rw [hw1]; simp
 have b2 : w1.cell? ⟨w.heap.size, 2, none⟩ = some (.string o.nm) := by rw [hw1]; simp
 have b3 : w1.cell? ⟨w.heap.size, 3, none⟩ = some (.string o.to) := by rw [hw1]; simp
 have b4 : w1.cell? ⟨w.heap.size, 4, none⟩ = some (.slice o.pu o.b2.length o.cu) := by rw [hw1]; simp
 have b5 : w1.cell? ⟨w.heap.size, 5, none⟩ = some (.int .i64 o.pos) := by rw [hw1]; simp
 have b6 : w1.cell? ⟨w.heap.size, 6, none⟩ = some (.int .i64 o.n) := by rw [hw1]; simp
 have b7 : w1.cell? ⟨w.heap.size, 7, none⟩ = some (.slice o.pk o.ks.length o.ck) := by rw [hw1]; simp
 have b8 : w1.cell? ⟨w.heap.size, 8, none⟩ = some (.int .i64 o.cp) := by rw [hw1]; simp
 have b9 : w1.cell? ⟨w.heap.size, 9, none⟩ = some (.slice o.pf o.fs.length o.cf) := by rw [hw1]; simp
 have b10 : w1.cell? ⟨w.heap.size, 10, none⟩ = some (.int .i64 o.fu) := by rw [hw1]; simp
 have b11 : w1.cell? ⟨w.heap.size, 11, none⟩ = some (.bool o.dn) := by rw [hw1]; simp
 have HF : Hid (∀ W, Below w.heap.size w W -> PlayIs w0 W y N T U) := fun W hb => h.below hb
 have hp1 := h.p j hj
 have hd1 := h.d j hj
 rw [ht] at hp1 hd1
 have p1 : w1.cell? ⟨y, j, none⟩ = some (.pointer (some ⟨t.pb, 0, none⟩)) := keep1 (uh B1) hyl hp1
 have d1 : w1.cell? ⟨y, 3 + j, none⟩ = some (.pointer (some ⟨t.rb, 0, none⟩)) := keep1 (uh B1) hyl hd1
 clear hp1 hd1
 have HC : Hid (Calls Tryz.prog 15 #[.pointer (some ⟨y, 0, none⟩), .agg #[.int .i64 (j : Int), .int .i64 KD, .string o.nm, .string o.to, .slice o.pu o.b2.length o.cu, .int .i64 o.pos, .int .i64 o.n, .slice o.pk o.ks.length o.ck, .int .i64 o.cp, .slice o.pf o.fs.length o.cf, .int .i64 o.fu, .bool o.dn]] w1.drew fun e w' => e = .returned (.bool true) /\ ∃ T' U', PlayIs w0 w' y (N + 64) T' U') := by
  have h9 := changes_any (h.below (uh B1).drew) hj ht hN o hd (by omega) ho
  unfold OpV.val at h9
  rw [hd, <- hKD] at h9
  exact h9
 have k1 : ¬ KD = 1 := by omega
 have k2 : ¬ KD = 2 := by omega
 have k16 : ¬ KD = 16 := by omega
 have q1 : decide (KD = 1) = false := decide_eq_false k1
 have q2 : decide (KD = 2) = false := decide_eq_false k2
 have q16 : decide (KD = 16) = false := decide_eq_false k16
 have r1 : (KD == 1) = false := by simp [k1]
 have r2 : (KD == 2) = false := by simp [k2]
 have r16 : (KD == 16) = false := by simp [k16]
 have kl : ¬ KD < 1 := by omega
 have kg : ¬ 16 < KD := by omega
 have ql : decide (KD < 1) = false := decide_eq_false kl
 have qg : decide (16 < KD) = false := decide_eq_false kg
 have qh : decide (KD > 16) = false := decide_eq_false kg
 have m1 : 3 <= KD := by omega
 have m2 : KD <= 7 := by omega
 have n1 : decide (3 <= KD) = true := decide_eq_true m1
 have n2 : decide (KD >= 3) = true := decide_eq_true m1
 have n3 : decide (KD <= 7) = true := decide_eq_true m2
 have hjI : (0 : Int) <= (j : Int) := by omega
 have hjI3 : ¬ (j : Int) < 0 := by omega
 have hjI4 : (j : Int) < 3 := by omega
 have hjI5 : ¬ (2 : Int) < (j : Int) := by omega
 unfold OpV.val
 rw [hd, <- hKD]
 clear h hd ho hKD ht hk
 go_enter Tryz.func6, Tryz.ntmps6
 go_wp2_with fail
 rw [<- hw1]
 clear hw1
 go_wp2_with fail
 refine wp_region_last (n := 28) (S := fun W => W.cell? ⟨w.heap.size, 0, none⟩ = some (.int .i64 (j : Int)) /\ W.cell? ⟨w.heap.size, 1, none⟩ = some (.int .i64 KD) /\ W.cell? ⟨y, j, none⟩ = some (.pointer (some ⟨t.pb, 0, none⟩)) /\ W.cell? ⟨y, 3 + j, none⟩ = some (.pointer (some ⟨t.rb, 0, none⟩))) (by kernel_rfl) (by first | (exact ⟨e0, e1, p1, d1⟩)) (fun hHeld => ?_)
 refine tkW 0 ?_; refine tkW 1 ?_; refine tkN 2 ?_; refine tkW 3 ?_; refine tkW 4 ?_; refine tkW 5 ?_; refine tkN 6 ?_; refine tkW 7 ?_; refine tkW 8 ?_; refine tkW 9 ?_; refine tkW 10 ?_
 refine tkN 11 ?_; refine tkW 12 ?_; refine tkW 13 ?_; refine tkW 14 ?_; refine tkN 15 ?_; refine tkW 16 ?_; refine tkW 17 ?_; refine tkW 18 ?_; refine tkW 19 ?_; refine tkN 20 ?_
 refine tkW 21 ?_; refine tkW 22 ?_; refine tkW 23 ?_; refine tkW 24 ?_; refine tkN 25 ?_; refine tkW 26 ?_; refine tkW 27 ?_
 refine wpAnyL_done (by kernel_rfl) ?_
 go_wp2_with fail
 refine (uh HC).mono ?_
 rintro r w2 ⟨rfl, h2⟩
 have H2 := hide h2
 clear h2
 go_wp2_with fail
 go_ret
 exact ⟨rfl, uh H2⟩
theorem step_looks {w0 w : World} {y N j : Nat} {T : Nat -> Option Tw} {U : Nat -> Prop} (h : PlayIs w0 w y N T U) (hj : j < 3) (hN : N < 800000) (o : OpV) (hd : o.d = (j : Int)) (ho : OpIn w0 o) {t : Tw} (ht : T j = some t) (hk : 8 <= o.kd /\ o.kd <= 15 /\ o.kd ≠ 12 /\ o.kd ≠ 14) :
  Calls Tryz.prog 6 #[.pointer (some ⟨y, 0, none⟩), o.val] w fun e w' => e = .returned (.bool true) /\ ∃ T' U', PlayIs w0 w' y (N + 64) T' U' := by
 have hyl := h.kb.lt
 obtain ⟨KD, hKD⟩ : ∃ KD, KD = o.kd := ⟨_, rfl⟩
 obtain ⟨w1, hw1⟩ : ∃ w1, w1 = w.alloc (.cells #[.int .i64 (j : Int), .int .i64 KD, .string o.nm, .string o.to, .slice o.pu o.b2.length o.cu, .int .i64 o.pos, .int .i64 o.n, .slice o.pk o.ks.length o.ck, .int .i64 o.cp, .slice o.pf o.fs.length o.cf, .int .i64 o.fu, .bool o.dn] 61) := ⟨_, rfl⟩
 have B1 : Hid (Below w.heap.size w w1) := by rw [hw1]; exact bal (Below.refl _ _) _
 have e0 : w1.cell? ⟨w.heap.size, 0, none⟩ = some (.int .i64 (j : Int)) := by rw [hw1]; simp
 have e1 : w1.cell? ⟨w.heap.size, 1, none⟩ = some (.int .i64 KD) := by rw [hw1]; simp
 have b2 : w1.cell? ⟨w.heap.size, 2, none⟩ = some (.string o.nm) := by rw [hw1]; simp
 have b3 : w1.cell? ⟨w.heap.size, 3, none⟩ = some (.string o.to) := by rw [hw1]; simp
 have b4 : w1.cell? ⟨w.heap.size, 4, none⟩ = some (.slice o.pu o.b2.length o.cu) := by rw [hw1]; simp
 have b5 : w1.cell? ⟨w.heap.size, 5, none⟩ = some (.int .i64 o.pos) := by rw [hw1]; simp
 have b6 : w1.cell? ⟨w.heap.size, 6, none⟩ = some (.int .i64 o.n) := by rw [hw1]; simp
 have b7 : w1.cell? ⟨w.heap.size, 7, none⟩ = some (.slice o.pk o.ks.length o.ck) := by rw [hw1]; simp
 have b8 : w1.cell? ⟨w.heap.size, 8, none⟩ = some (.int .i64 o.cp) := by rw [hw1]; simp
 have b9 : w1.cell? ⟨w.heap.size, 9, none⟩ = some (.slice o.pf o.fs.length o.cf) := by rw [hw1]; simp
 have b10 : w1.cell? ⟨w.heap.size, 10, none⟩ = some (.int .i64 o.fu) := by rw [hw1]; simp
 have b11 : w1.cell? ⟨w.heap.size, 11, none⟩ = some (.bool o.dn) := by rw [hw1]; simp
 have HF : Hid (∀ W, Below w.heap.size w W -> PlayIs w0 W y N T U) := fun W hb => h.below hb
 have hp1 := h.p j hj
 have hd1 := h.d j hj
 rw [ht] at hp1 hd1
 have p1 : w1.cell? ⟨y, j, none⟩ = some (.pointer (some ⟨t.pb, 0, none⟩)) := keep1 (uh B1) hyl hp1
 have d1 : w1.cell? ⟨y, 3 + j, none⟩ = some (.pointer (some ⟨t.rb, 0, none⟩)) := keep1 (uh B1) hyl hd1
 clear hp1 hd1
 have HC : Hid (Calls Tryz.prog 16 #[.pointer (some ⟨y, 0, none⟩), .agg #[.int .i64 (j : Int), .int .i64 KD, .string o.nm, .string o.to, .slice o.pu o.b2.length o.cu, .int .i64 o.pos, .int .i64 o.n, .slice o.pk o.ks.length o.ck, .int .i64 o.cp, .slice o.pf o.fs.length o.cf, .int .i64 o.fu, .bool o.dn]] w1.drew fun e w' => e = .returned (.bool true) /\ ∃ T' U', PlayIs w0 w' y (N + 64) T' U') := by
  have h9 := looks_any (h.below (uh B1).drew) hj ht hN o hd (by omega) ho
  unfold OpV.val at h9
  rw [hd, <- hKD] at h9
  exact h9
 have k1 : ¬ KD = 1 := by omega
 have k2 : ¬ KD = 2 := by omega
 have k16 : ¬ KD = 16 := by omega
 have q1 : decide (KD = 1) = false := decide_eq_false k1
 have q2 : decide (KD = 2) = false := decide_eq_false k2
 have q16 : decide (KD = 16) = false := decide_eq_false k16
 have r1 : (KD == 1) = false := by simp [k1]
 have r2 : (KD == 2) = false := by simp [k2]
 have r16 : (KD == 16) = false := by simp [k16]
 have kl : ¬ KD < 1 := by omega
 have kg : ¬ 16 < KD := by omega
 have ql : decide (KD < 1) = false := decide_eq_false kl
 have qg : decide (16 < KD) = false := decide_eq_false kg
 have qh : decide (KD > 16) = false := decide_eq_false kg
 have m1 : 3 <= KD := by omega
 have m2 : ¬ KD <= 7 := by omega
 have n1 : decide (3 <= KD) = true := decide_eq_true m1
 have n2 : decide (KD >= 3) = true := decide_eq_true m1
 have n3 : decide (KD <= 7) = false := decide_eq_false m2
 have m3 : ¬ KD = 12 := by omega
 have m4 : ¬ KD = 14 := by omega
 have n5 : decide (KD = 12) = false := decide_eq_false m3
 have n6 : decide (KD = 14) = false := decide_eq_false m4
 have n7 : (KD == 12) = false := by simp [m3]
 have n8 : (KD == 14) = false := by simp [m4]
 have hjI : (0 : Int) <= (j : Int) := by omega
 have hjI3 : ¬ (j : Int) < 0 := by omega
 have hjI4 : (j : Int) < 3 := by omega
 have hjI5 : ¬ (2 : Int) < (j : Int) := by omega
 unfold OpV.val
 rw [hd, <- hKD]
 clear h hd ho hKD ht hk
 go_enter Tryz.func6, Tryz.ntmps6
 go_wp2_with fail
 rw [<- hw1]
 clear hw1
 go_wp2_with fail
 refine wp_region_last (n := 28) (S := fun W => W.cell? ⟨w.heap.size, 0, none⟩ = some (.int .i64 (j : Int)) /\ W.cell? ⟨w.heap.size, 1, none⟩ = some (.int .i64 KD) /\ W.cell? ⟨y, j, none⟩ = some (.pointer (some ⟨t.pb, 0, none⟩)) /\ W.cell? ⟨y, 3 + j, none⟩ = some (.pointer (some ⟨t.rb, 0, none⟩))) (by kernel_rfl) (by first | (exact ⟨e0, e1, p1, d1⟩)) (fun hHeld => ?_)
 refine tkW 0 ?_; refine tkW 1 ?_; refine tkN 2 ?_; refine tkW 3 ?_; refine tkW 4 ?_; refine tkW 5 ?_; refine tkN 6 ?_; refine tkW 7 ?_; refine tkW 8 ?_; refine tkW 9 ?_; refine tkW 10 ?_
 refine tkN 11 ?_; refine tkW 12 ?_; refine tkW 13 ?_; refine tkW 14 ?_; refine tkN 15 ?_; refine tkW 16 ?_; refine tkW 17 ?_; refine tkW 18 ?_; refine tkW 19 ?_; refine tkN 20 ?_
 refine tkW 21 ?_; refine tkW 22 ?_; refine tkW 23 ?_; refine tkW 24 ?_; refine tkN 25 ?_; refine tkW 26 ?_; refine tkW 27 ?_
 refine wpAnyL_done (by kernel_rfl) ?_
 go_wp2_with fail
 refine (uh HC).mono ?_
 rintro r w2 ⟨rfl, h2⟩
 have H2 := hide h2
 clear h2
 go_wp2_with fail
 go_ret
 exact ⟨rfl, uh H2⟩
theorem step_any {w0 w : World} {y N : Nat} {T : Nat -> Option Tw} {U : Nat -> Prop} (h : PlayIs w0 w y N T U) (hN : N < 800000) (o : OpV) (ho : OpIn w0 o) :
  Calls Tryz.prog 6 #[.pointer (some ⟨y, 0, none⟩), o.val] w fun e w' => e = .returned (.bool true) /\ ∃ T' U', PlayIs w0 w' y (N + 64) T' U' := by
 by_cases hd : 0 <= o.d /\ o.d <= 2
 ·obtain ⟨j, hj⟩ : ∃ j : Nat, o.d = (j : Int) := ⟨o.d.toNat, by omega⟩
  have hj3 : j < 3 := by omega
  by_cases k1 : o.kd = 1
  ·exact step_made1 h hj3 hN o hj ho k1
  by_cases k2 : o.kd = 2
  ·exact step_made2 h hj3 hN o hj ho k2
  by_cases k16 : o.kd = 16
  ·exact step_made16 h hj3 hN o hj ho k16
  cases ht : T j with
  | none => exact step_none h hj3 hN o hj ho ht ⟨k1, k2, k16⟩
  | some t =>
   by_cases kl : o.kd < 1
   ·exact step_low h hj3 hN o hj ho ht kl
   by_cases kg : 16 < o.kd
   ·exact step_high h hj3 hN o hj ho ht kg
   by_cases k12 : o.kd = 12
   ·exact step_chg12 h hj3 hN o hj ho ht k12
   by_cases k14 : o.kd = 14
   ·exact step_chg14 h hj3 hN o hj ho ht k14
   by_cases k7 : o.kd <= 7
   ·exact step_chg h hj3 hN o hj ho ht ⟨by omega, k7⟩
   ·exact step_looks h hj3 hN o hj ho ht ⟨by omega, by omega, k12, k14⟩
 ·exact step_nodisk h o (by omega)
end Go.Proofs.YtpeohbkigkfcgabGreatDoor
namespace Go.Proofs.YtpeohbkigkfcgabGreatDoor
open Go Go.Shelf Go.ChangeShapes Go.WideShapes Go.ChangeAt Go.RowKit Go.Maps Go.Sort
def aS : ByteArray := ⟨#[97]⟩
def K0 : Dk := ⟨10, [], -1, false⟩
def K1 : Dk := ⟨10, [([97], ⟨[], 0⟩)], -1, false⟩
def K2 : Dk := ⟨10, [([97], ⟨[104, 101, 108, 108, 111], 0⟩)], -1, false⟩
def K3 : Dk := ⟨10, [([97], ⟨[104, 101, 108, 108, 111], 5⟩)], -1, false⟩
def K4 : Dk := ⟨10, [([97], ⟨[104, 101, 108, 108, 111, 97, 98, 99], 5⟩)], -1, false⟩
def K5 : Dk := ⟨10, [([97], ⟨[104, 101, 108, 108, 111, 97, 98], 7⟩)], -1, false⟩
theorem fst1 : chgK K0 (whyK aS K0) (newA aS K0) = (K1, 0) := by rfl
theorem fst2 : chgK K1 (erA aS [104, 101, 108, 108, 111] K1) (appA aS [104, 101, 108, 108, 111] K1) = (K2, 0) := by rfl
theorem fst3 : chgK K2 (erF aS K2) (syncA aS K2) = (K3, 0) := by rfl
theorem fst4 : chgK K3 (erA aS [97, 98, 99] K3) (appA aS [97, 98, 99] K3) = (K4, 0) := by rfl
theorem fst5 : crashK [2] K4 = K5 := by rfl
theorem Inv.K0 : Inv K0 := Inv.new (x := 10) (f := -1) (b := false) (by decide) (by decide)
theorem Inv.K1 : Inv K1 := by have := Inv.K0.create aS; rw [fst1] at this; exact this
theorem Inv.K2 : Inv K2 := by have := Inv.K1.append aS [104, 101, 108, 108, 111]; rw [fst2] at this; exact this
theorem Inv.K3 : Inv K3 := by have := Inv.K2.sync aS; rw [fst3] at this; exact this
theorem Inv.K4 : Inv K4 := by have := Inv.K3.append aS [97, 98, 99]; rw [fst4] at this; exact this
theorem Inv.K5 : Inv K5 := by have := Inv.K4.crash [2]; rw [fst5] at this; exact this
theorem fcreate1 {w : World} {d N : Nat} {S : Nat -> Prop} (h : DiskOK w d N K0 S) (hN : N < 1000000) : Calls Tryz.prog 39 #[.pointer (some ⟨d, 0, none⟩), .string ⟨#[97]⟩] w fun e w' => e = .returned (.int .i64 0) /\ ∃ S', DiskOK w' d (N + 1) K1 S' /\ Sep w w' S S' := by
 obtain ⟨mo, n, es, h⟩ := h
 have := create_ok h hN (by decide) aS (by decide)
 rw [fst1] at this
 exact this
theorem append2 {w : World} {d N : Nat} {S : Nat -> Prop} (h : DiskOK w d N K1 S) (hN : N < 1000000) (b c : Nat) (hu : BytesAt w (.slice (some ⟨b, 0, none⟩) 5 c) [104, 101, 108, 108, 111]) (hb : b ≠ d) : Calls Tryz.prog 40 #[.pointer (some ⟨d, 0, none⟩), .string ⟨#[97]⟩, .slice (some ⟨b, 0, none⟩) 5 c] w fun e w' => e = .returned (.int .i64 0) /\ ∃ S', DiskOK w' d (N + 1) K2 S' /\ Sep w w' S S' := by
 obtain ⟨mo, n, es, h⟩ := h
 have := append_ok h hN (by decide) (by decide) (by decide) (by decide) aS (by decide) (some ⟨b, 0, none⟩) c [104, 101, 108, 108, 111] hu (fun q hq => by simp only [Value.ownBlock, Option.some.injEq] at hq; omega)
 rw [fst2] at this
 exact this
theorem sync3 {w : World} {d N : Nat} {S : Nat -> Prop} (h : DiskOK w d N K2 S) (hN : N < 1000000) : Calls Tryz.prog 41 #[.pointer (some ⟨d, 0, none⟩), .string ⟨#[97]⟩] w fun e w' => e = .returned (.int .i64 0) /\ ∃ S', DiskOK w' d (N + 1) K3 S' /\ Sep w w' S S' := by
 obtain ⟨mo, n, es, h⟩ := h
 have := sync_ok h hN (by decide) aS (by decide)
 rw [fst3] at this
 exact this
theorem append4 {w : World} {d N : Nat} {S : Nat -> Prop} (h : DiskOK w d N K3 S) (hN : N < 1000000) (b c : Nat) (hu : BytesAt w (.slice (some ⟨b, 0, none⟩) 3 c) [97, 98, 99]) (hb : b ≠ d) : Calls Tryz.prog 40 #[.pointer (some ⟨d, 0, none⟩), .string ⟨#[97]⟩, .slice (some ⟨b, 0, none⟩) 3 c] w fun e w' => e = .returned (.int .i64 0) /\ ∃ S', DiskOK w' d (N + 1) K4 S' /\ Sep w w' S S' := by
 obtain ⟨mo, n, es, h⟩ := h
 have := append_ok h hN (by decide) (by decide) (by decide) (by decide) aS (by decide) (some ⟨b, 0, none⟩) c [97, 98, 99] hu (fun q hq => by simp only [Value.ownBlock, Option.some.injEq] at hq; omega)
 rw [fst4] at this
 exact this
theorem crash5 {w : World} {d N : Nat} {S : Nat -> Prop} (h : DiskOK w d N K4 S) (hN : N < 900000) (b c : Nat) (hk : w.cell? ⟨b, 0, none⟩ = some (.int .i64 2)) (hb : ¬ S b) : Calls Tryz.prog 42 #[.pointer (some ⟨d, 0, none⟩), .slice (some ⟨b, 0, none⟩) 1 c] w fun e w' => (∃ r, e = .returned r) /\ ∃ S', DiskOK w' d (N + 1) K5 S' /\ Sep w w' S S' := by
 have := crash_ok h hN Inv.K4 (some ⟨b, 0, none⟩) c [2] (.inr ⟨b, 0, c, rfl, fun i k hi => by
  match i, hi with
  | 0, hi => simp only [List.getElem?_cons_zero, Option.some.injEq] at hi; subst hi; exact hk⟩) (fun q hq => by simp only [Value.ownBlock, Option.some.injEq] at hq; subst hq; exact hb) (by decide)
 rw [fst5] at this
 exact this
theorem read6 {w : World} {d N : Nat} {S : Nat -> Prop} (h : DiskOK w d N K5 S) : Calls Tryz.prog 43 #[.pointer (some ⟨d, 0, none⟩), .string ⟨#[97]⟩, .int .i64 0, .int .i64 7] w fun e w' => (∃ p c, e = .returned (.tuple #[.slice p 7 c, .int .i64 0]) /\ (convert 55 9 (.slice p 7 c)).run Tryz.prog w' = .ok (.string ⟨#[104, 101, 108, 108, 111, 97, 98]⟩) w' /\ w'.ownsRow 0 5 1 (.slice p 7 c) 7 (bcs [104, 101, 108, 108, 111, 97, 98])) /\ Below w.heap.size w w' := by
 obtain ⟨mo, n, es, h⟩ := h
 refine (read_ok h aS (by decide) rfl (by decide) (x := ⟨[104, 101, 108, 108, 111, 97, 98], 7⟩) rfl (by decide) 7 (by decide)).mono ?_
 rintro e w' ⟨⟨p, c, rfl, hr⟩, hb⟩
 have hr' := row_base hr (Nat.zero_le _)
 exact ⟨⟨p, c, rfl, conv_row (bs := [104, 101, 108, 108, 111, 97, 98]) hr', hr'⟩, hb⟩
theorem free7 {w : World} {d N : Nat} {S : Nat -> Prop} (h : DiskOK w d N K5 S) : Calls Tryz.prog 45 #[.pointer (some ⟨d, 0, none⟩)] w fun e w' => e = .returned (.int .i64 3) /\ Below w.heap.size w w' := by
 obtain ⟨mo, n, es, h⟩ := h
 exact free_ok h (by decide) (by decide) (by decide)
theorem down8 {w : World} {d N : Nat} {S : Nat -> Prop} (h : DiskOK w d N K5 S) : Calls Tryz.prog 46 #[.pointer (some ⟨d, 0, none⟩)] w fun e w' => e = .returned (.bool false) /\ w' = w := by
 obtain ⟨mo, n, es, h⟩ := h
 exact down_ok h
theorem list9 {w : World} {d N : Nat} {S : Nat -> Prop} (h : DiskOK w d N K5 S) : Calls Tryz.prog 44 #[.pointer (some ⟨d, 0, none⟩)] w fun e w' => (∃ g c, e = .returned (.tuple #[.slice (some ⟨g, 0, none⟩) 1 c, .int .i64 0]) /\ w'.cell? ⟨g, 0, none⟩ = some (.string ⟨#[97]⟩)) /\ Below w.heap.size w w' := by
 obtain ⟨mo, n, es, h⟩ := h
 refine (list_ok h Inv.K5.ord (by decide) rfl).mono ?_
 rintro e w' ⟨v, rfl, hr, hb⟩
 obtain ⟨g, c, rfl⟩ := own_open hr (by decide)
 exact ⟨⟨g, c, rfl, hr.cells (g := g) rfl 0 _ rfl⟩, hb⟩
theorem first_ok (w : World) : Calls Tryz.prog 9 #[] w fun e w' => e = .returned (.bool true) /\ Below w.heap.size w w' := by
 go_enter Tryz.func9, Tryz.ntmps9
 go_wp2_with fail
 refine (new_ok 10 (by decide) w).mono ?_
 rintro e w1 ⟨rfl, hd1, hb1⟩
 have D1 : Hid (DiskOK w1 w.heap.size 0 K0 (fun q => q = w.heap.size)) := hd1
 have B1 := hide hb1
 have F1 : Hid (∀ q, q = w.heap.size -> w.heap.size <= q) := fun q e => by omega
 clear hd1 hb1
 go_wp2_with (first | (go_at_call 38; refine (num_any 0 _).mono ?_; rintro e w2 ⟨rfl, hw⟩; rw [hw]; clear hw w2))
 refine (fcreate1 (uh D1) (by omega)).mono ?_
 rintro e w2 ⟨rfl, S2, hd2, hs2⟩
 have D2 := hide hd2
 have B2 : Hid (Below w.heap.size w w2) := (uh B1).trans (hs2.below (uh F1) (uh B1).size)
 have F2 : Hid (∀ q, S2 q -> w.heap.size <= q) := hs2.from (uh F1) (uh B1).size
 have L2 : Hid (∀ q, S2 q -> q < w2.heap.size) := by obtain ⟨_, _, _, h⟩ := hd2; exact h.sl
 have l2 : w.heap.size < w2.heap.size := by obtain ⟨_, _, _, h⟩ := hd2; exact h.at'.lt
 clear hd2 hs2
 obtain ⟨w3, hw3⟩ : ∃ w3, w3 = w2.alloc (.cells #[.int .u8 104, .int .u8 101, .int .u8 108, .int .u8 108, .int .u8 111] 5 (5, 6)) := ⟨_, rfl⟩
 have b3 : Below w2.heap.size w2 w3 := by rw [hw3]; exact bal (Below.refl _ _) _
 have U3 : Hid (BytesAt w3 (.slice (some ⟨w2.heap.size, 0, none⟩) 5 5) [104, 101, 108, 108, 111]) := .inr ⟨w2.heap.size, 0, 5, rfl, fun j u hj => by
  rw [hw3, Nat.zero_add, World.cell?_alloc_mark]
  match j, hj with
  | 0, hj => exact hj
  | 1, hj => exact hj
  | 2, hj => exact hj
  | 3, hj => exact hj
  | 4, hj => exact hj⟩
 have z3 : w3.heap.size = w2.heap.size + 1 := by rw [hw3]; simp
 have hcv3 : (convert 55 55 (.slice (some ⟨w2.heap.size, 0, none⟩) 5 5)).run Tryz.prog (w2.alloc (.cells #[.int .u8 104, .int .u8 101, .int .u8 108, .int .u8 108, .int .u8 111] 5)) = .ok (.slice (some ⟨w2.heap.size, 0, none⟩) 5 5) w3 := by rw [hw3]; exact Go.Lib.run_convert_bytes_const (P := Tryz.prog) w2 55 5 #[.int .u8 104, .int .u8 101, .int .u8 108, .int .u8 108, .int .u8 111] 5 5 Tryz.underlying55 Tryz.underlying5
 clear hw3
 have D3 := hide ((uh D2).below b3)
 have B3 : Hid (Below w.heap.size w w3) := (uh B2).trans (b3.mono (by omega))
 clear b3
 go_wp2_with (first | (go_at_call 38; refine (num_any 0 _).mono ?_; rintro e wn ⟨rfl, hw⟩; rw [hw]; clear hw wn))
 refine (append2 (uh D3) (by omega) w2.heap.size 5 (uh U3) (by omega)).mono ?_
 rintro e w4 ⟨rfl, S4, hd4, hs4⟩
 have D4 := hide hd4
 have B4 : Hid (Below w.heap.size w w4) := (uh B3).trans (hs4.below (uh F2) (uh B3).size)
 have F4 : Hid (∀ q, S4 q -> w.heap.size <= q) := hs4.from (uh F2) (uh B3).size
 clear hd4 hs4 hcv3
 go_wp2_with (first | (go_at_call 38; refine (num_any 0 _).mono ?_; rintro e wn ⟨rfl, hw⟩; rw [hw]; clear hw wn))
 refine (sync3 (uh D4) (by omega)).mono ?_
 rintro e w5 ⟨rfl, S5, hd5, hs5⟩
 have D5 := hide hd5
 have B5 : Hid (Below w.heap.size w w5) := (uh B4).trans (hs5.below (uh F4) (uh B4).size)
 have F5 : Hid (∀ q, S5 q -> w.heap.size <= q) := hs5.from (uh F4) (uh B4).size
 have l5 : w.heap.size < w5.heap.size := by obtain ⟨_, _, _, h⟩ := hd5; exact h.at'.lt
 clear hd5 hs5
 obtain ⟨w6, hw6⟩ : ∃ w6, w6 = w5.alloc (.cells #[.int .u8 97, .int .u8 98, .int .u8 99] 5 (3, 4)) := ⟨_, rfl⟩
 have b6 : Below w5.heap.size w5 w6 := by rw [hw6]; exact bal (Below.refl _ _) _
 have U6 : Hid (BytesAt w6 (.slice (some ⟨w5.heap.size, 0, none⟩) 3 3) [97, 98, 99]) := .inr ⟨w5.heap.size, 0, 3, rfl, fun j u hj => by
  rw [hw6, Nat.zero_add, World.cell?_alloc_mark]
  match j, hj with
  | 0, hj => exact hj
  | 1, hj => exact hj
  | 2, hj => exact hj⟩
 have z6 : w6.heap.size = w5.heap.size + 1 := by rw [hw6]; simp
 have hcv6 : (convert 55 55 (.slice (some ⟨w5.heap.size, 0, none⟩) 3 3)).run Tryz.prog (w5.alloc (.cells #[.int .u8 97, .int .u8 98, .int .u8 99] 5)) = .ok (.slice (some ⟨w5.heap.size, 0, none⟩) 3 3) w6 := by rw [hw6]; exact Go.Lib.run_convert_bytes_const (P := Tryz.prog) w5 55 5 #[.int .u8 97, .int .u8 98, .int .u8 99] 3 3 Tryz.underlying55 Tryz.underlying5
 clear hw6
 have D6 := hide ((uh D5).below b6)
 have B6 : Hid (Below w.heap.size w w6) := (uh B5).trans (b6.mono (by omega))
 clear b6
 go_wp2_with (first | (go_at_call 38; refine (num_any 0 _).mono ?_; rintro e wn ⟨rfl, hw⟩; rw [hw]; clear hw wn))
 refine (append4 (uh D6) (by omega) w5.heap.size 3 (uh U6) (by omega)).mono ?_
 rintro e w7 ⟨rfl, S7, hd7, hs7⟩
 have D7 := hide hd7
 have B7 : Hid (Below w.heap.size w w7) := (uh B6).trans (hs7.below (uh F5) (uh B6).size)
 have F7 : Hid (∀ q, S7 q -> w.heap.size <= q) := hs7.from (uh F5) (uh B6).size
 have L7 : Hid (∀ q, S7 q -> q < w7.heap.size) := by obtain ⟨_, _, _, h⟩ := hd7; exact h.sl
 clear hd7 hs7 hcv6
 go_wp2_with (first | (go_at_call 38; refine (num_any 0 _).mono ?_; rintro e wn ⟨rfl, hw⟩; rw [hw]; clear hw wn))
 obtain ⟨w8, hw8⟩ : ∃ w8, w8 = w7.alloc (.cells #[.int .i64 2] 3) := ⟨_, rfl⟩
 have b8 : Below w7.heap.size w7 w8 := by rw [hw8]; exact bal (Below.refl _ _) _
 have k8 : Hid (w8.cell? ⟨w7.heap.size, 0, none⟩ = some (.int .i64 2)) := by rw [hw8]; show _ = _; simp
 rw [<- hw8]
 clear hw8
 have B8 : Hid (Below w.heap.size w w8) := (uh B7).trans (b8.mono (uh B7).size)
 refine (crash5 ((uh D7).below b8) (by omega) w7.heap.size 1 (uh k8) (fun h' => by have := uh L7 _ h'; omega)).mono ?_
 rintro e w9 ⟨⟨r, rfl⟩, S9, hd9, hs9⟩
 have D9 := hide hd9
 have B9 : Hid (Below w.heap.size w w9) := (uh B8).trans (hs9.below (uh F7) (uh B8).size)
 clear hd9 hs9 b8
 go_wp2_with fail
 refine (read6 (uh D9)).mono ?_
 rintro e w10 ⟨⟨p, c, rfl, hcv, hrow⟩, hb10⟩
 have D10 := hide ((uh D9).below hb10)
 have B10 : Hid (Below w.heap.size w w10) := (uh B9).trans (hb10.mono (uh B9).size)
 have R10 := hide hrow
 clear hb10 hrow hcv
 go_wp2_with fail
 refine (list9 (uh D10)).mono ?_
 rintro e w11 ⟨⟨g, cg, rfl, hg⟩, hb11⟩
 have D11 := hide ((uh D10).below hb11)
 have B11 : Hid (Below w.heap.size w w11) := (uh B10).trans (hb11.mono (uh B10).size)
 have hcv : (convert 55 9 (.slice p 7 c)).run Tryz.prog w11 = .ok (.string ⟨#[104, 101, 108, 108, 111, 97, 98]⟩) w11 := conv_row (bs := [104, 101, 108, 108, 111, 97, 98]) (own_below (uh R10) hb11)
 have HF := hide (free7 (uh D11))
 clear hb11
 go_wp2_with (first | (go_at_call 38; refine (num_any 0 _).mono ?_; rintro e wn ⟨rfl, hw⟩; rw [hw]; clear hw wn))
 refine (uh HF).mono ?_
 rintro e w12 ⟨rfl, hb12⟩
 have D12 := hide ((uh D11).below hb12)
 have B12 : Hid (Below w.heap.size w w12) := (uh B11).trans (hb12.mono (uh B11).size)
 clear hb12
 go_wp2_with (first | (go_at_call 46; refine (down8 (uh D12)).mono ?_; rintro e wn ⟨rfl, hw⟩; rw [hw]; clear hw wn))
 go_ret
 exact ⟨rfl, uh B12⟩
end Go.Proofs.YtpeohbkigkfcgabGreatDoor
