import Derived.Test.YtdeibifjiefapaaGreatDoorW39
/- asks (10). By tools/ch6_asb.py. -/
namespace Go.Proofs.YtdeibifjiefapaaGreatDoor.Kg
open Go Go.RowKit Go.Shelf Go.ChangeShapes Go.WideShapes Go.ChangeAt Go.Maps
set_option linter.unusedVariables false
set_option linter.unusedSimpArgs false
set_option maxRecDepth 100000
set_option maxHeartbeats 8000000
attribute [local go_sem ↓] ld41_is

section
variable {w : World} {c r : Nat} {S : Nat → Prop} {L : List Ac} {bk b0 : Nat} {U U' : Nat → Prop} {W : World}
theorem asks_any (hT : Sd w c r S L) (hK : KB w bk U) (hap : ∀ q, S q → q ≠ bk ∧ ¬ U q) (s : ByteArray) (hs : s.size < 4611686018427387904) :
    Calls Tryz.prog 10 #[sdV c r, .string s, .pointer (some ⟨bk, 0, none⟩)] w fun e w' => AkOut w bk U e w' := by
  obtain ⟨W0, hW0⟩ : ∃ W0, W0 = w.alloc (.cells #[ptr c, ptr r] 33) := ⟨_, rfl⟩
  obtain ⟨b0, hb0⟩ : ∃ b0, b0 = w.heap.size := ⟨_, rfl⟩
  have hA0 : AkAt w c r S L bk b0 U U W0 := by
    have hb : Below w.heap.size w W0 := by rw [hW0]; exact (Below.refl _ w).alloc (Nat.le_refl _) _
    have hbk := hK.lt
    refine ⟨hT.below hb, hK.below hb, ⟨hb.os, hb.tape, hb.output, hb.size, fun q hq _ => hb.block q hq, fun q hq => .inl hq⟩, ?_, hap, ⟨by omega, fun hu => ?_⟩, hT.lt, by omega⟩
    · rw [hW0, hb0]; exact heap_new _ _
    · have := (hK.ul b0 hu).2.2; omega
  have hG := hT.isGood
  obtain ⟨A, hA⟩ : ∃ A, A = findA L s.data.toList := ⟨_, rfl⟩
  obtain ⟨G, hGG⟩ : ∃ G, G = (fnd L s.data.toList).isSome := ⟨_, rfl⟩
  obtain ⟨K1, hK1⟩ : ∃ K1, K1 = kids L s.data.toList := ⟨_, rfl⟩
  obtain ⟨K2, hK2⟩ : ∃ K2, K2 = kids L (ByteArray.mk #[]).data.toList := ⟨_, rfl⟩
  obtain ⟨n1, hn1⟩ : ∃ n, n = K1.length := ⟨_, rfl⟩
  obtain ⟨n2, hn2⟩ : ∃ n, n = K2.length := ⟨_, rfl⟩
  obtain ⟨n3, hn3⟩ : ∃ n, n = L.length := ⟨_, rfl⟩
  have l1 : n1 ≤ 100 := by rw [hn1, hK1]; exact Nat.le_trans (kids_len L _) hG.len
  have l2 : n2 ≤ 100 := by rw [hn2, hK2]; exact Nat.le_trans (kids_len L _) hG.len
  have l3 : n3 ≤ 100 := by rw [hn3]; exact hG.len
  have D22 : Hid (∀ X : World, Sd X c r S L → Calls Tryz.prog 22 #[ptr c, .string s] X fun e w' => e = .returned (.tuple #[.agg #[.string (txN A.nm), .int .i64 A.ty, .int .i64 A.dy, .bool A.cl], .bool G]) ∧ Below X.heap.size X w') := fun X h => by rw [hA, hGG]; exact h.a22 s hs
  have D23 : Hid (∀ X : World, Sd X c r S L → Calls Tryz.prog 23 #[ptr r, .string s] X fun e w' => e = .returned (.tuple #[.agg #[.string (txN A.nm), .int .i64 A.ty, .int .i64 A.dy, .bool A.cl], .bool G]) ∧ Below X.heap.size X w') := fun X h => by rw [hA, hGG]; exact h.a23 s
  have D24 : Hid (∀ X : World, Sd X c r S L → Calls Tryz.prog 24 #[ptr c, .string s] X fun e w' => ∃ p cc, e = .returned (.slice p n1 cc) ∧ Ml kT X w' (.slice p n1 cc) n1 K1) := fun X h => h.a24 s hs hK1 hn1
  have D24b : Hid (∀ X : World, Sd X c r S L → Calls Tryz.prog 24 #[ptr c, .string ⟨#[]⟩] X fun e w' => ∃ p cc, e = .returned (.slice p n2 cc) ∧ Ml kT X w' (.slice p n2 cc) n2 K2) := fun X h => h.a24 _ (by decide) hK2 hn2
  have D25 : Hid (∀ X : World, Sd X c r S L → Calls Tryz.prog 25 #[ptr c] X fun e w' => ∃ p cc, e = .returned (.slice p n3 cc) ∧ Ml kA X w' (.slice p n3 cc) n3 L) := fun X h => h.a25 hn3
  have D27 : Hid (∀ X : World, Sd X c r S L → Calls Tryz.prog 27 #[ptr r, .string s] X fun e w' => ∃ p cc, e = .returned (.slice p n1 cc) ∧ Ml kT X w' (.slice p n1 cc) n1 K1) := fun X h => h.a27 s hK1 hn1
  have D27b : Hid (∀ X : World, Sd X c r S L → Calls Tryz.prog 27 #[ptr r, .string ⟨#[]⟩] X fun e w' => ∃ p cc, e = .returned (.slice p n2 cc) ∧ Ml kT X w' (.slice p n2 cc) n2 K2) := fun X h => h.a27 _ hK2 hn2
  have D29 : Hid (∀ X : World, Sd X c r S L → Calls Tryz.prog 29 #[ptr r] X fun e w' => ∃ p cc, e = .returned (.slice p n3 cc) ∧ Ml kA X w' (.slice p n3 cc) n3 L) := fun X h => h.a29 hn3
  have D26 : Hid (∀ (n : Nat) (K : List Nm) (X X1 X2 : World) (p q : Option Addr) (c1 c2 : Nat), n ≤ 100 → Ml kT X X2 (.slice p n c1) n K → Ml kT X1 X2 (.slice q n c2) n K → Calls Tryz.prog 26 #[.slice p n c1, .slice q n c2] X2 fun e w' => e = .returned (.bool true) ∧ Below X2.heap.size X2 w') := fun n K X X1 X2 p q c1 c2 hn h1 h2 => samet_any h1.len (by omega) (own_lies kT_ok h1.len h1.row) (own_lies kT_ok h2.len h2.row)
  have D28 : Hid (∀ (X X1 X2 : World) (p q : Option Addr) (c1 c2 : Nat), Ml kA X X2 (.slice p n3 c1) n3 L → Ml kA X1 X2 (.slice q n3 c2) n3 L → Calls Tryz.prog 28 #[.slice p n3 c1, .slice q n3 c2] X2 fun e w' => e = .returned (.bool true) ∧ Below X2.heap.size X2 w') := fun X X1 X2 p q c1 c2 h1 h2 => by
    refine (same_any h1.len h2.len (by omega) (own_lies kA_ok h1.len h1.row) (own_lies kA_ok h2.len h2.row)).mono ?_
    rintro e w' ⟨rfl, d, rfl⟩
    rw [sameB_self]
    exact ⟨rfl, below_drewN (Below.refl _ _) d⟩
  have D30 : Hid (∀ (X : World) (V : Nat → Prop) (v : Value) (n : Nat) (K : List Nm), n ≤ 100 → KB X bk V → Fre w bk b0 kT v n K V X → Calls Tryz.prog 30 #[.pointer (some ⟨bk, 0, none⟩), v] X fun e w' => e = .returned (.tuple #[]) ∧ ∃ V', KB w' bk V' ∧ Took X w' bk V V' v) := fun X V v n K hn hk hv => hk.keepX (n := n) (X := K.map toX) (by rw [List.length_map]; exact hv.len) (by rw [flatX]; exact hv.row) (by omega) hv.free
  have D32 : Hid (∀ (X : World) (V : Nat → Prop) (v : Value) (n : Nat) (K : List Nm), n ≤ 100 → KB X bk V → Fre w bk b0 kT v n K V X → Calls Tryz.prog 32 #[.pointer (some ⟨bk, 0, none⟩), v] X fun e w' => e = .returned (.tuple #[]) ∧ ∃ V', KB w' bk V' ∧ Took X w' bk V V' v) := fun X V v n K hn hk hv => hk.writeX (n := n) (X := K.map toX) (by rw [List.length_map]; exact hv.len) (by rw [flatX]; exact hv.row) (by omega) hv.free
  have D31 : Hid (∀ (X : World) (V : Nat → Prop) (v : Value), KB X bk V → Fre w bk b0 kA v n3 L V X → Calls Tryz.prog 31 #[.pointer (some ⟨bk, 0, none⟩), v] X fun e w' => e = .returned (.tuple #[]) ∧ ∃ V', KB w' bk V' ∧ Took X w' bk V V' v) := fun X V v hk hv => hk.keepD (n := n3) (X := L.map toD) (by rw [List.length_map]; exact hv.len) (by rw [flatD]; exact hv.row) (by omega) hv.free
  have D33 : Hid (∀ (X : World) (V : Nat → Prop) (v : Value), KB X bk V → Fre w bk b0 kA v n3 L V X → Calls Tryz.prog 33 #[.pointer (some ⟨bk, 0, none⟩), v] X fun e w' => e = .returned (.tuple #[]) ∧ ∃ V', KB w' bk V' ∧ Took X w' bk V V' v) := fun X V v hk hv => hk.writeD (n := n3) (X := L.map toD) (by rw [List.length_map]; exact hv.len) (by rw [flatD]; exact hv.row) (by omega) hv.free
  have L1 := hide l1; have L2 := hide l2; have L3 := hide l3
  have d22 := hide (unhide D22 W0 hA0.sd)
  have c0 := hA0.c0
  have HA0 := hide hA0
  clear hA0 hT hK hap hs hG hA hGG hK1 hK2 hn1 hn2 hn3 l1 l2 l3 D22
  unfold sdV
  go_enter Tryz.func10, Tryz.ntmps10
  go_upto_region 1 with fail
  rw [← hW0, ← hb0]
  clear hW0 hb0
  go_upto_region 2 with (first | (go_at_call 22; refine (unhide d22).mono ?_; rintro e w1 ⟨rfl, hb1⟩))
  obtain ⟨W1, hW1⟩ : ∃ W1, W1 = w1.alloc (.cells #[.string (txN A.nm), .int .i64 A.ty, .int .i64 A.dy, .bool A.cl] 65) := ⟨_, rfl⟩
  obtain ⟨a1, ha1⟩ : ∃ a1, a1 = w1.heap.size := ⟨_, rfl⟩
  rw [← hW1, ← ha1]
  have r1 : W1.heap[a1]? = some (.cells #[.string (txN A.nm), .int .i64 A.ty, .int .i64 A.dy, .bool A.cl] 65) := by rw [hW1, ha1]; exact heap_new _ _
  have hA1 : AkAt w c r S L bk b0 U U W1 := (unhide HA0).below (by rw [hW1]; exact hb1.alloc hb1.size _)
  have d23 := hide (unhide D23 W1 hA1.sd)
  have c1 := hA1.c1
  have HA1 := hide hA1
  have R1 := hide r1
  clear hA1 hb1 hW1 ha1 c0 d22 HA0 D23 r1 w1 W0
  go_upto_region 3 with (first | (go_at_call 23; refine (unhide d23).mono ?_; rintro e w2 ⟨rfl, hb2⟩))
  obtain ⟨W2, hW2⟩ : ∃ W2, W2 = w2.alloc (.cells #[.string (txN A.nm), .int .i64 A.ty, .int .i64 A.dy, .bool A.cl] 65) := ⟨_, rfl⟩
  obtain ⟨a2, ha2⟩ : ∃ a2, a2 = w2.heap.size := ⟨_, rfl⟩
  rw [← hW2, ← ha2]
  have r2 : W2.heap[a2]? = some (.cells #[.string (txN A.nm), .int .i64 A.ty, .int .i64 A.dy, .bool A.cl] 65) := by rw [hW2, ha2]; exact heap_new _ _
  have hbb : Below W1.heap.size W1 W2 := by rw [hW2]; exact hb2.alloc hb2.size _
  have r1 : W2.heap[a1]? = some (.cells #[.string (txN A.nm), .int .i64 A.ty, .int .i64 A.dy, .bool A.cl] 65) := (hbb.block a1 (Array.getElem?_eq_some_iff.1 (unhide R1)).1).trans (unhide R1)
  have hA2 : AkAt w c r S L bk b0 U U W2 := (unhide HA1).below hbb
  have HA2 := hide hA2
  have hl1 := run_ld41 (a := A) (range4 r1)
  have hl2 := run_ld41 (a := A) (range4 r2)
  have heq : ∀ w, (Op.equalIn 10000 65 (acV A) (acV A)).run Tryz.prog w = .ok true w := fun w => by rw [eq41, eqB_self]
  have hst := st41
  have hsh := sh41
  have heg := eg41
  unfold acV at hl1 hl2 heq
  clear hA2 hb2 hbb hW2 ha2 c1 d23 HA1 R1 r1 r2 w2 W1
  go_upto_region 6 with fail
  clear hl1 hl2 heq hst hsh heg
  go_loopw [11] (fun v11 wr => ∃ (k : Nat), v11 = .int .i64 k ∧ k ≤ 2 ∧ Hid (∃ U', AkAt w c r S L bk b0 U U' wr)) (fun v11 _ => 2 - (intOf v11).toNat)
  case atStart => exact ⟨0, rfl, by omega, _, unhide HA2⟩
  case round =>
    clear HA2
    obtain ⟨k, rfl, hk, hrel⟩ := hrel
    obtain ⟨U1, hA⟩ := unhide hrel
    by_cases hk2 : k < 2
    · have hkI : (k : Int) < 2 := by omega
      have d24 := hide (unhide D24 wr hA.sd)
      have c0 := hA.c0
      have HA := hide hA
      clear hA hrel
      go_upto_region 9 with (first | (go_at_call 24; refine (unhide d24).mono ?_; rintro e w4 ⟨p4, c4, rfl, hm4⟩))
      have hA4 := (unhide HA).below hm4.bel
      have d24b := hide (unhide D24b w4 hA4.sd)
      have c0' := hA4.c0
      have HM4 := hide hm4; have HA4 := hide hA4
      clear hm4 hA4 c0 d24
      go_upto_region 10 with (first | (go_at_call 24; refine (unhide d24b).mono ?_; rintro e w5 ⟨p5, c5, rfl, hm5⟩))
      have hA5 := (unhide HA4).below hm5.bel
      have d25 := hide (unhide D25 w5 hA5.sd)
      have c0 := hA5.c0
      have HM5 := hide hm5; have HA5 := hide hA5
      clear hm5 hA5 c0' d24b
      go_upto_region 11 with (first | (go_at_call 25; refine (unhide d25).mono ?_; rintro e w6 ⟨p6, c6, rfl, hm6⟩))
      have hA6 := (unhide HA5).below hm6.bel
      have d27 := hide (unhide D27 w6 hA6.sd)
      have c1 := hA6.c1
      have HM6 := hide hm6; have HA6 := hide hA6
      have H4 : Hid (Ml kT wr w6 (.slice p4 n1 c4) n1 K1) := ((unhide HM4).below (unhide HM5).bel).below hm6.bel
      clear hm6 hA6 c0 d25
      have H26 : Hid (∀ (w7 : World) (p7 : Option Addr) (c7 : Nat), Ml kT w6 w7 (.slice p7 n1 c7) n1 K1 → Calls Tryz.prog 26 #[.slice p4 n1 c4, .slice p7 n1 c7] w7 fun e w' => e = .returned (.bool true) ∧ Below w7.heap.size w7 w') := fun w7 p7 c7 h7 => unhide D26 n1 K1 wr w6 w7 p4 p7 c4 c7 (unhide L1) ((unhide H4).below h7.bel) h7
      go_upto_region 12 with (first | (go_at_call 27; refine (unhide d27).mono ?_; rintro e w7 ⟨p7, c7, rfl, hm7⟩; have HM7 := hide hm7; have h26 := hide (unhide H26 w7 p7 c7 hm7); clear hm7) | (go_at_call 26; refine (unhide h26).mono ?_; rintro e w8 ⟨rfl, hb8⟩; have HB8 := hide hb8; clear hb8))
      have hb8 : Below w6.heap.size w6 w8 := (unhide HM7).bel.trans ((unhide HB8).mono (unhide HM7).bel.size)
      have hA8 := (unhide HA6).below hb8
      have d27b := hide (unhide D27b w8 hA8.sd)
      have c1' := hA8.c1
      have HA8 := hide hA8
      have H5 : Hid (Ml kT w4 w8 (.slice p5 n2 c5) n2 K2) := ((unhide HM5).below (unhide HM6).bel).below hb8
      have H48 : Hid (Ml kT wr w8 (.slice p4 n1 c4) n1 K1) := (unhide H4).below hb8
      have H68 : Hid (Ml kA w5 w8 (.slice p6 n3 c6) n3 L) := (unhide HM6).below hb8
      clear hb8 hA8 c1 d27 H26 h26 HB8 HM7 H4
      have H26 : Hid (∀ (w9 : World) (p9 : Option Addr) (c9 : Nat), Ml kT w8 w9 (.slice p9 n2 c9) n2 K2 → Calls Tryz.prog 26 #[.slice p5 n2 c5, .slice p9 n2 c9] w9 fun e w' => e = .returned (.bool true) ∧ Below w9.heap.size w9 w') := fun w9 p9 c9 h9 => unhide D26 n2 K2 w4 w8 w9 p5 p9 c5 c9 (unhide L2) ((unhide H5).below h9.bel) h9
      go_upto_region 13 with (first | (go_at_call 27; refine (unhide d27b).mono ?_; rintro e w9 ⟨p9, c9, rfl, hm9⟩; have HM9 := hide hm9; have h26 := hide (unhide H26 w9 p9 c9 hm9); clear hm9) | (go_at_call 26; refine (unhide h26).mono ?_; rintro e w10 ⟨rfl, hb10⟩; have HB10 := hide hb10; clear hb10))
      have hb10 : Below w8.heap.size w8 w10 := (unhide HM9).bel.trans ((unhide HB10).mono (unhide HM9).bel.size)
      have hA10 := (unhide HA8).below hb10
      have d29 := hide (unhide D29 w10 hA10.sd)
      have c1 := hA10.c1
      have HA10 := hide hA10
      have H510 : Hid (Ml kT w4 w10 (.slice p5 n2 c5) n2 K2) := (unhide H5).below hb10
      have H410 : Hid (Ml kT wr w10 (.slice p4 n1 c4) n1 K1) := (unhide H48).below hb10
      have H610 : Hid (Ml kA w5 w10 (.slice p6 n3 c6) n3 L) := (unhide H68).below hb10
      clear hb10 hA10 c1' d27b H26 h26 HB10 HM9 H5 H48 H68
      have H28 : Hid (∀ (w11 : World) (p11 : Option Addr) (c11 : Nat), Ml kA w10 w11 (.slice p11 n3 c11) n3 L → Calls Tryz.prog 28 #[.slice p6 n3 c6, .slice p11 n3 c11] w11 fun e w' => e = .returned (.bool true) ∧ Below w11.heap.size w11 w') := fun w11 p11 c11 h11 => unhide D28 w5 w10 w11 p6 p11 c6 c11 ((unhide H610).below h11.bel) h11
      go_upto_region 14 with (first | (go_at_call 29; refine (unhide d29).mono ?_; rintro e w11 ⟨p11, c11, rfl, hm11⟩; have HM11 := hide hm11; have h28 := hide (unhide H28 w11 p11 c11 hm11); clear hm11) | (go_at_call 28; refine (unhide h28).mono ?_; rintro e w12 ⟨rfl, hb12⟩; have HB12 := hide hb12; clear hb12))
      have hb12 : Below w10.heap.size w10 w12 := (unhide HM11).bel.trans ((unhide HB12).mono (unhide HM11).bel.size)
      have hA12 := (unhide HA10).below hb12
      have f4 : Fre w bk b0 kT (.slice p4 n1 c4) n1 K1 U1 w12 := ((unhide H410).below hb12).fre (unhide HA)
      have f5 : Fre w bk b0 kT (.slice p5 n2 c5) n2 K2 U1 w12 := ((unhide H510).below hb12).fre (unhide HA4)
      have f6 : Fre w bk b0 kA (.slice p6 n3 c6) n3 L U1 w12 := ((unhide H610).below hb12).fre (unhide HA5)
      have a4 : ∀ q, (Value.slice p4 n1 c4).ownBlock = some q → q < w4.heap.size := fun q hq => (row_block (unhide HM4).row hq).2.1
      have a5 : ∀ q, (Value.slice p5 n2 c5).ownBlock = some q → w4.heap.size ≤ q ∧ q < w5.heap.size := fun q hq => ⟨(row_block (unhide HM5).row hq).1, (row_block (unhide HM5).row hq).2.1⟩
      have a6 : ∀ q, (Value.slice p6 n3 c6).ownBlock = some q → w5.heap.size ≤ q := fun q hq => (row_block (unhide HM6).row hq).1
      have z5 := (unhide HM5).bel.size
      have e54 : ∀ q, (Value.slice p5 n2 c5).ownBlock = some q → (Value.slice p4 n1 c4).ownBlock ≠ some q := fun q hq e => by have := a4 q e; have := a5 q hq; omega
      have e64 : ∀ q, (Value.slice p6 n3 c6).ownBlock = some q → (Value.slice p4 n1 c4).ownBlock ≠ some q := fun q hq e => by have := a4 q e; have := a6 q hq; omega
      have e65 : ∀ q, (Value.slice p6 n3 c6).ownBlock = some q → (Value.slice p5 n2 c5).ownBlock ≠ some q := fun q hq e => by have := a5 q e; have := a6 q hq; omega
      have HST : Hid (∀ (X Y Z : World) (V1 V2 V3 : Nat → Prop), KB X bk V1 → Took w12 X bk U1 V1 (.slice p4 n1 c4) → KB Y bk V2 → Took X Y bk V1 V2 (.slice p5 n2 c5) → KB Z bk V3 → Took Y Z bk V2 V3 (.slice p6 n3 c6) → AkAt w c r S L bk b0 U V3 Z) := fun X Y Z V1 V2 V3 k1 t1 k2 t2 k3 t3 => ((hA12.took k1 t1 f4.new).took k2 t2 f5.new).took k3 t3 f6.new
      have HS5 : Hid (∀ (X : World) (V1 : Nat → Prop), Took w12 X bk U1 V1 (.slice p4 n1 c4) → Fre w bk b0 kT (.slice p5 n2 c5) n2 K2 V1 X) := fun X V1 t1 => f5.took t1 e54
      have HS6 : Hid (∀ (X Y : World) (V1 V2 : Nat → Prop), Took w12 X bk U1 V1 (.slice p4 n1 c4) → Took X Y bk V1 V2 (.slice p5 n2 c5) → Fre w bk b0 kA (.slice p6 n3 c6) n3 L V2 Y) := fun X Y V1 V2 t1 t2 => (f6.took t1 e64).took t2 e65
      have d30 := hide (unhide D30 w12 U1 _ n1 K1 (unhide L1) hA12.kb f4)
      have d32 := hide (unhide D32 w12 U1 _ n1 K1 (unhide L1) hA12.kb f4)
      clear hb12 hA12 f4 f5 f6 a4 a5 a6 z5 e54 e64 e65 c1 d29 H28 h28 HB12 HM11 H510 H410 H610 HA10 HA8 HA6 HA5 HA4 HA HM4 HM5 HM6
      by_cases hk0 : k = 0
      · subst hk0
        go_upto_region 18 with (first | (go_at_call 30; refine (unhide d30).mono ?_; rintro e X ⟨rfl, V1, k1, t1⟩))
        have d30b := hide (unhide D30 X V1 _ n2 K2 (unhide L2) k1 (unhide HS5 X V1 t1))
        have Q1 := hide (And.intro k1 t1)
        clear k1 t1 d30
        go_upto_region 19 with (first | (go_at_call 30; refine (unhide d30b).mono ?_; rintro e Y ⟨rfl, V2, k2, t2⟩))
        have d31 := hide (unhide D31 Y V2 _ k2 (unhide HS6 X Y V1 V2 (unhide Q1).2 t2))
        have Q2 := hide (And.intro k2 t2)
        clear k2 t2 d30b
        go_wp2_with (first | (go_at_call 31; refine (unhide d31).mono ?_; rintro e Z ⟨rfl, V3, k3, t3⟩; have HFIN : Hid (∃ U', AkAt w c r S L bk b0 U U' Z) := ⟨V3, unhide HST X Y Z V1 V2 V3 (unhide Q1).1 (unhide Q1).2 (unhide Q2).1 (unhide Q2).2 k3 t3⟩; clear k3 t3))
        exact ⟨⟨0 + 1, by go_num, by omega, HFIN⟩, by simp [intOf]⟩
      · have hk1 : k = 1 := by omega
        subst hk1
        go_upto_region 21 with (first | (go_at_call 32; refine (unhide d32).mono ?_; rintro e X ⟨rfl, V1, k1, t1⟩))
        have d32b := hide (unhide D32 X V1 _ n2 K2 (unhide L2) k1 (unhide HS5 X V1 t1))
        have Q1 := hide (And.intro k1 t1)
        clear k1 t1 d32
        go_upto_region 22 with (first | (go_at_call 32; refine (unhide d32b).mono ?_; rintro e Y ⟨rfl, V2, k2, t2⟩))
        have d33 := hide (unhide D33 Y V2 _ k2 (unhide HS6 X Y V1 V2 (unhide Q1).2 t2))
        have Q2 := hide (And.intro k2 t2)
        clear k2 t2 d32b
        go_wp2_with (first | (go_at_call 33; refine (unhide d33).mono ?_; rintro e Z ⟨rfl, V3, k3, t3⟩; have HFIN : Hid (∃ U', AkAt w c r S L bk b0 U U' Z) := ⟨V3, unhide HST X Y Z V1 V2 V3 (unhide Q1).1 (unhide Q1).2 (unhide Q2).1 (unhide Q2).2 k3 t3⟩; clear k3 t3))
        exact ⟨⟨1 + 1, by go_num, by omega, HFIN⟩, by simp [intOf]⟩
    · have hkI : ¬ (k : Int) < 2 := by omega
      have d34 := hide hA.kb.intact
      have HA := hide hA
      clear hA hrel
      go_wp2_with (first | (go_at_call 34; refine (unhide d34).mono ?_; rintro e w4 ⟨rfl, hb4⟩))
      have HO : Hid (AkOut w bk U (.returned (.bool true)) w4) := ⟨rfl, U1, (unhide HA).kb.below hb4, ((unhide HA).below hb4).sep⟩
      clear hb4
      go_wp2_with fail
      go_ret
      exact unhide HO
end
end Go.Proofs.YtdeibifjiefapaaGreatDoor.Kg
/- made (8): plain: loads and stores of sides and accounts; a list that is written over. -/
namespace Go.Proofs.YtdeibifjiefapaaGreatDoor.Kg
open Go Go.RowKit Go.Shelf Go.ChangeShapes Go.WideShapes Go.ChangeAt Go.Maps
set_option linter.unusedVariables false
set_option linter.unusedSimpArgs false
set_option maxRecDepth 100000
set_option maxHeartbeats 8000000
def ld33 (x : Value) : Sem Value := Instr.loadAt 33 x
theorem ld33_is (x : Value) : Instr.loadAt 33 x = ld33 x := rfl
theorem siz33 : (Tryz.prog.info? 33).map (·.size) = some 2 := by kernel_rfl
theorem run_ld33 {w : World} {b : Nat} {x y : Value} (h : w.heap[b]? = some (.cells #[x, y] 33 (0, 0))) : (ld33 (.pointer (some ⟨b, 0, none⟩))).run Tryz.prog w = .ok (.agg #[x, y]) w :=
  run_loadAt_mid (P := Tryz.prog) w b 0 33 [x, y] _ (fun j u hu => by rw [Nat.zero_add, cell_at h]; simpa using hu) Tryz.underlying33 rfl siz33
def st33 (x y : Value) : Sem Unit := Instr.storeAt 33 x y
theorem st33_is (x y : Value) : Instr.storeAt 33 x y = st33 x y := rfl
theorem run_st33 {w : World} {b : Nat} {x0 x1 : Value} (h : w.heap[b]? = some (.cells #[x0, x1] 33 (0, 0))) {d r : Option Addr} : (st33 (.pointer (some ⟨b, 0, none⟩)) (.agg #[.pointer d, .pointer r])).run Tryz.prog w = .ok () (w.setCells b 0 [.pointer d, .pointer r]) :=
  run_storeAt_mid (P := Tryz.prog) w b 0 33 #[.pointer d, .pointer r] (fun j hj => by
    have hj' : j < 2 := by simpa using hj
    match j, hj' with
    | 0, _ => simp [World.cell?, World.frozen?, h]
    | 1, _ => simp [World.cell?, World.frozen?, h]) siz33 (by simp [Value.oneCell'])
theorem heap_set2 {w : World} {b : Nat} {x0 x1 v0 v1 : Value} {t : TypeId} (h : w.heap[b]? = some (.cells #[x0, x1] t (0, 0))) : (w.setCells b 0 [v0, v1]).heap[b]? = some (.cells #[v0, v1] t (0, 0)) := by
  unfold World.setCells World.setCells World.setCells
  exact Go.Proofs.YtdeibifjiefapaaGreatDoor.heap_set (Go.Proofs.YtdeibifjiefapaaGreatDoor.heap_set h _) _
/-- a list of accounts is written over -/
structure Ow (a b : World) (g M : Nat) : Prop where
  os : b.os = a.os
  tape : b.tape = a.tape
  output : b.output = a.output
  size : b.heap.size = a.heap.size
  blk : ∀ q, q ≠ g → b.heap[q]? = a.heap[q]?
  th : ∀ k, k < M → b.there g (k * 4) 4
theorem Ow.step {a b : World} {g M : Nat} (h : Ow a b g M) (k : Nat) (vs : List Value) : Ow a (b.setCells g k vs) g M :=
  ⟨(setCells_rest g vs k b).1.trans h.os, (setCells_rest g vs k b).2.1.trans h.tape, (setCells_rest g vs k b).2.2.trans h.output, (setCells_size g vs k b).trans h.size, fun q hq => (setCells_far g hq vs k b).trans (h.blk q hq), fun j hj => World.there_setCells (h.th j hj) _ _ _⟩
theorem Ow.bel {a b : World} {g M B : Nat} {w : World} (h : Ow a b g M) (hb : Below B w a) (hg : B ≤ g) (hB : B ≤ w.heap.size) : Below B w b :=
  ⟨h.os.trans hb.os, h.tape.trans hb.tape, h.output.trans hb.output, by rw [h.size]; exact hb.size, fun q hq => (h.blk q (by omega)).trans (hb.block q hq)⟩
/-- the account that lists are written over with -/
def zA : Ac := ⟨[90], 1, 1, false⟩
theorem zA_txt : txN zA.nm = ⟨#[90]⟩ := rfl
theorem liesD {W : World} {p : Option Addr} {L : List Ac} (h : Lies kA W p L) : Lies kD W p (L.map toD) := by
  refine ⟨fun e => by rw [h.1 e]; rfl, fun k hk => ?_⟩
  rw [List.length_map] at hk
  obtain ⟨b, off, e, hlt, hr⟩ := h.2 k hk
  exact ⟨b, off, e, hlt, by rw [List.getElem_map]; exact hr⟩
theorem liesA {W : World} {p : Option Addr} {L : List Ac} {M : List Am} (h : Lies kD W p (L.map toD ++ M)) : Lies kA W p L := by
  refine ⟨fun e => by have := h.1 e; rw [List.append_eq_nil_iff] at this; exact List.map_eq_nil_iff.1 this.1, fun k hk => ?_⟩
  have hk2 : k < (L.map toD).length := by rw [List.length_map]; exact hk
  obtain ⟨b, off, e, hlt, hr⟩ := h.2 k (by rw [List.length_append]; omega)
  rw [List.getElem_append_left hk2, List.getElem_map] at hr
  exact ⟨b, off, e, hlt, hr⟩
structure Oz (a b : World) (g M k : Nat) : Prop where
  ow : Ow a b g M
  z : ∀ j, j < k → b.rangeAt g (j * 4) (toD zA).vals
theorem Oz.step {a b : World} {g M k : Nat} (h : Oz a b g M k) (hk : k < M) : Oz a (b.setCells g (k * 4) (toD zA).vals) g M (k + 1) := by
  refine ⟨h.ow.step _ _, fun j hj => ?_⟩
  by_cases e : j = k
  · subst e
    exact World.rangeAt_setCells_same b g (j * 4) (toD zA).vals (fun i hi => h.ow.th j hk i hi)
  · exact World.rangeAt_setCells_apart (h.z j (by omega)) g (k * 4) _ (.inr (.inl (by have h1 : (toD zA).vals.length = 4 := rfl; omega)))
theorem Oz.lies {a b : World} {g M k n : Nat} (h : Oz a b g M k) (hn : n ≤ k) (hg : g < b.heap.size) : Lies kA b (some ⟨g, 0, none⟩) (List.replicate n zA) := by
  refine ⟨(fun h => by cases h), fun j hj => ⟨g, 0, rfl, hg, ?_⟩⟩
  rw [List.length_replicate] at hj
  rw [List.getElem_replicate, Nat.zero_add]
  exact h.z j (by omega)

theorem run_stZ {W : World} {g i : Nat} (h : W.there g (i * 4) 4) : (stKD (.pointer (some ⟨g, i * 4, none⟩)) (.agg #[.string ⟨#[90]⟩, .int .i64 1, .int .i64 1, .bool false])).run Tryz.prog W = .ok () (W.setCells g (i * 4) (toD zA).vals) := run_stKD h (toD zA)
/-- what both Froms answer of a list -/
def AgZ (X : List Ac) (c : Int) (b : Bool) : Prop := (Good X ∧ c = 0 ∧ b = false) ∨ (¬ Good X ∧ c = 67 ∧ b = true)
theorem agz (X : List Ac) : ∃ c b, AgZ X c b := by
  by_cases h : Good X
  · exact ⟨0, false, .inl ⟨h, rfl, rfl⟩⟩
  · exact ⟨67, true, .inr ⟨h, rfl, rfl⟩⟩
theorem pfrom_z {W : World} {p : Option Addr} {n c : Nat} {X : List Ac} (hn : X.length = n) (hL : Lies kA W p X) (hm : n ≤ 1048576) (hs : ∀ a ∈ X, (txN a.nm).size < 4611686018427387904) {cZ : Int} {bZ : Bool} (h : AgZ X cZ bZ) : Calls Tryz.prog 13 #[.slice p n c] W fun e w' => ∃ gp, e = .returned (.tuple #[.pointer gp, .int .i64 cZ]) ∧ gp.isNone = bZ ∧ Below W.heap.size W w' := by
  refine (from_any (c := c) hn (by omega) hL hs).mono ?_
  rintro e w' ⟨(⟨h1, d, S, g, rfl, _⟩ | ⟨h1, rfl⟩), hb⟩
  · rw [ok_good] at h1
    rcases h with ⟨_, rfl, rfl⟩ | ⟨h, _⟩
    · exact ⟨_, rfl, rfl, hb⟩
    · exact absurd h1 h
  · rw [ok_good] at h1
    rcases h with ⟨h, _⟩ | ⟨_, rfl, rfl⟩
    · exact absurd h h1
    · exact ⟨none, rfl, rfl, hb⟩
theorem rfrom_z {W : World} {p : Option Addr} {n c : Nat} {X : List Ac} (hn : X.length = n) (hL : Lies kA W p X) (hpc : p = none → c = 0) (hm : n ≤ 1048576) (hs : ∀ a ∈ X, (txN a.nm).size < 4611686018427387904) {cZ : Int} {bZ : Bool} (h : AgZ X cZ bZ) : Calls Tryz.prog 14 #[.slice p n c] W fun e w' => ∃ gp, e = .returned (.tuple #[.pointer gp, .int .i64 cZ]) ∧ Below W.heap.size W w' := by
  refine (rfrom_any (c := c) hn (by omega) hL hpc hs).mono ?_
  rintro e w' ⟨(⟨h1, d, S, rfl, _⟩ | ⟨h1, rfl⟩), hb⟩
  · rcases h with ⟨_, rfl, rfl⟩ | ⟨h, _⟩
    · exact ⟨_, rfl, hb⟩
    · exact absurd h1 h
  · rcases h with ⟨h, _⟩ | ⟨_, rfl, rfl⟩
    · exact absurd h h1
    · exact ⟨none, rfl, hb⟩
/-- two charts, made one behind the other -/
theorem sd_two {w1 w2 : World} {d r : Nat} {S1 S2 : Nat → Prop} {L : List Ac} {g : Gh} (h1 : Ct w1 d S1 L g) (hb : Below w1.heap.size w1 w2) (h2 : Rc w2 r S2 L) (hn : ∀ k, S2 k → w1.heap.size ≤ k) : Sd w2 d r (fun k => S1 k ∨ S2 k) L :=
  ⟨S1, S2, g, ⟨h1.below hb, h2, fun k x y => by have := h1.inh k x; have := hn k y; omega, fun k => Iff.rfl⟩⟩
theorem sd_new (W : World) : Sd ((W.alloc (.cells (cellsA top0 (.slice none 0 0)) 70)).alloc (.cells #[.slice none 0 0] 72)) W.heap.size (W.heap.size + 1) (fun k => k = W.heap.size ∨ k = W.heap.size + 1) [] := by
  have h1 := new_ct W
  have h2 := rnew_rc (W.alloc (.cells (cellsA top0 (.slice none 0 0)) 70))
  rw [World.size_alloc] at h2
  exact sd_two h1 ((Below.refl _ _).alloc (Nat.le_refl _) _) h2 (fun k hk => by rw [World.size_alloc]; omega)
theorem lv33 {w : World} {b : Nat} {x y : Value} (h : w.heap[b]? = some (.cells #[x, y] 33 (0, 0))) : (loadVar 33 ⟨b, 0, none⟩).run Tryz.prog w = .ok (.agg #[x, y]) w := by
  have h1 := run_ld33 h
  unfold ld33 at h1
  simpa only [Instr.loadAt, Instr.sureAddr, Sem.run_bind, Sem.run_pure, Result.andThen_ok] using h1
/-- what made answers -/
def MadeOut (W : World) (e : Ending) (w' : World) : Prop := ∃ d r S M, e = .returned (.tuple #[sdV d r, .bool true]) ∧ Sd w' d r S M ∧ (∀ k, S k → W.heap.size ≤ k) ∧ Below W.heap.size W w'
end Go.Proofs.YtdeibifjiefapaaGreatDoor.Kg
