import Derived.Test.YtbenciieenbmeaaGreatDoorW24
import Derived.Sort.Grow
/- answer: row 35, first 34. -/
namespace Go.Proofs.YtbenciieenbmeaaGreatDoor
open Go Go.Shelf Go.ChangeShapes Go.WideShapes Go.ChangeAt Go.RowKit Go.Maps
set_option linter.unusedVariables false
set_option maxRecDepth 100000
set_option maxHeartbeats 4000000
/-- a line's cells as the columns ask for them -/
def rowL (P : List Int) (L : List Cl) : List Cl := P.map (fun z => L.getD z.toNat .no)
section
attribute [local go_sem ↓] ldC_is
theorem row_any {W : World} {p1 : Option Addr} {n1 c1 : Nat} {p2 : Option Addr} {n2 c2 : Nat} {pP : Option Addr} {nP cP : Nat} {P : List Int} {pL : Option Addr} {nL cL : Nat} {L : List Cl} (hP : Lies kI W pP P) (hnP : P.length = nP) (hPb : nP ≤ 4194304) (hL : Lies kC W pL L) (hnL : L.length = nL) (hin : ∀ z ∈ P, 0 ≤ z ∧ z < (nL : Int)) :
    Calls Tryz.prog 35 #[.agg #[.slice p1 n1 c1, .slice p2 n2 c2, .slice pP nP cP], .slice pL nL cL] W fun e w' => ∃ p c, e = .returned (.slice p nP c) ∧ Rw kC W w' (.slice p nP c) nP (rowL P L) := by
  obtain ⟨A, hA⟩ : ∃ A, A = W.alloc (.cells #[.slice p1 n1 c1, .slice p2 n2 c2, .slice pP nP cP] 80) := ⟨_, rfl⟩
  have hBA : Below W.heap.size W A := by rw [hA]; exact Below.a1 W _
  have b80 : Bk A W.heap.size 80 [.slice p1 n1 c1, .slice p2 n2 c2, .slice pP nP cP] := by show A.heap[_]? = _; rw [hA]; exact heap_new _ _
  obtain ⟨w0, hmk, hr0⟩ := Rw.made kC_ok A nP (by show 32 * nP ≤ _; omega) (by omega)
  have hmk : (Instr.makeSlice 46 (.int .i64 0) (.int .i64 (nP : Int))).run Tryz.prog A = .ok (.slice (some ⟨A.heap.size, 0, none⟩) 0 nP) w0 := hmk
  have a2 : A.cell? ⟨W.heap.size, 2, none⟩ = some (.slice pP nP cP) := b80.cell 2
  have w2 : w0.cell? ⟨W.heap.size, 2, none⟩ = some (.slice pP nP cP) := (b80.same (hr0.bel.block _ b80.lt)).cell 2
  have HR0 : Hid (Rw kC A w0 (.slice (some ⟨A.heap.size, 0, none⟩) 0 nP) 0 (rowL (P.take 0) L)) := by show Rw _ _ _ _ _ _; rw [List.take_zero]; exact hr0
  have HP := hide (hP.below hBA); have HN := hide hnP; have HL := hide (hL.below hBA); have HNL := hide hnL; have HIN := hide hin
  have HA := hide hA; have HBA := hide hBA
  clear hr0 hP hnP hL hnL hin hA hBA b80
  go_enter Tryz.func35, Tryz.ntmps35
  go_upto_region 1 with fail
  rw [← unhide HA]
  go_wp2_with fail
  clear hmk a2 w2
  go_loopw [5, 15] (fun v5 v15 wr => ∃ (k : Nat) (q : Option Addr) (cq : Nat), v15 = .int .i64 k ∧ k ≤ nP ∧ v5 = .slice q k cq ∧ Hid (Rw kC A wr (.slice q k cq) k (rowL (P.take k) L))) (fun _ v15 _ => nP - (intOf v15).toNat)
  case atStart => exact ⟨0, _, _, rfl, by omega, rfl, unhide HR0⟩
  case round =>
    obtain ⟨k, q, cq, rfl, hk, rfl, hrel⟩ := hrel
    by_cases hlt : k < nP
    · have hkl : k < P.length := by rw [unhide HN]; exact hlt
      obtain ⟨b, off, e1, hbl, hr⟩ := (unhide HP).2 k hkl
      obtain ⟨hz0, hz1⟩ := unhide HIN _ (List.getElem_mem hkl)
      have htk : Hid (rowL (P.take (k + 1)) L = rowL (P.take k) L ++ [L.getD (P[k]).toNat .no]) := by
        show _ = _
        unfold rowL
        rw [List.take_succ_eq_append_getElem hkl, List.map_append]; rfl
      obtain ⟨z, hz⟩ : ∃ z : Nat, P[k] = z := ⟨(P[k]).toNat, by omega⟩
      rw [hz] at hr htk hz1
      have hzl : z < L.length := by rw [unhide HNL]; omega
      obtain ⟨b2, off2, e2, hbl2, hr2⟩ := (unhide HL).2 z hzl
      have hB := (unhide hrel).bel
      have hc := (hB.cell (p := ⟨b, off + k * kI.s + 0, none⟩) hbl).trans (hr 0 (.int .i64 (z : Int)) rfl)
      simp only [kI, Nat.mul_one, Nat.add_zero] at hc
      have l1 : (ldC (.pointer (some ⟨b2, off2 + z * 3, none⟩))).run Tryz.prog wr = .ok (L[z]).val wr := run_ldC (fun j u hu => (hB.cell (p := ⟨b2, off2 + z * 3 + j, none⟩) hbl2).trans (hr2 j u hu))
      have ez : L.getD ((z : Int)).toNat .no = L[z] := by rw [Int.toNat_natCast, List.getD_eq_getElem?_getD, List.getElem?_eq_getElem hzl]; rfl
      rw [ez] at htk
      obtain ⟨x, hx⟩ : ∃ x, x = L[z] := ⟨_, rfl⟩
      rw [← hx] at htk l1
      obtain ⟨ct, cn, cx⟩ := x
      have l2 : (ldC (.pointer (some ⟨b2, off2 + z * 3, none⟩))).run Tryz.prog wr = .ok (.agg #[.int .i64 ct, .int .i64 cn, .string cx]) wr := l1
      obtain ⟨p8, c8, w8, r8, o8⟩ := (unhide hrel).put kC_ok (⟨ct, cn, cx⟩ : Cl) #[.int .i64 ct, .int .i64 cn, .string cx] rfl 46 (by omega) (nat_bound (c := 4194400) (by omega) (by decide))
      have r8 : (Builtin.append_ #[46, 46] 46 #[.slice q k cq, .slice (some ⟨wr.heap.size, 0, none⟩) 1 1]).run Tryz.prog (wr.alloc (.cells #[.int .i64 ct, .int .i64 cn, .string cx] 45)) = .ok (.slice p8 (k + 1) c8) w8 := r8
      have HR8 := hide r8
      have HO8 := hide o8
      have hkn : (k : Int) < (nP : Int) := by omega
      have hzn : (z : Int) < (nL : Int) := by omega
      have h3 : ¬ (k : Int) < 0 := by omega
      have h4 : ¬ (z : Int) < 0 := by omega
      subst e1
      subst e2
      clear r8 o8 hr hr2 hx hbl hbl2 hkl hzl hB l1 ez hz hz0
      go_wp2_with (first | (at_builtin; refine wpList_append_run rfl _ _ 46 rfl _ _ _ _ rfl rfl (unhide HR8) ?_))
      refine ⟨⟨k + 1, p8, c8, by go_num, by omega, rfl, ?_⟩, by simp [intOf]; omega⟩
      show Rw _ _ _ _ _ _
      rw [unhide htk]
      exact unhide HO8
    · have hkn : k = nP := by omega
      subst hkn
      have HZ : Hid (Rw kC W wr (.slice q k cq) k (rowL P L)) := by
        have := (unhide hrel).up (unhide HBA)
        rwa [List.take_of_length_le (by rw [unhide HN]; exact Nat.le_refl _)] at this
      go_wp2_with fail
      go_ret
      exact ⟨_, _, rfl, unhide HZ⟩
end
/-- as many as the limit lets stay -/
def limN (lim : Int) (n : Nat) : Nat := if lim < 0 then n else min lim.toNat n
theorem first_any {W : World} (lb n : Nat) (lim : Int) (hn : n ≤ 4294967296) (hl : inI lim) : Calls Tryz.prog 34 #[.slice (some ⟨lb, 0, none⟩) n n, .int .i64 lim] W fun e w' => (∃ c, e = .returned (.slice (some ⟨lb, 0, none⟩) (limN lim n) c)) ∧ w' = W := by
  by_cases h0 : lim < 0
  · have e : limN lim n = n := by unfold limN; rw [if_pos h0]
    rw [e]
    clear e
    go_enter Tryz.func34, Tryz.ntmps34
    go_wp2_with fail
    go_ret
    exact ⟨⟨n, rfl⟩, rfl⟩
  · obtain ⟨m, rfl⟩ : ∃ m : Nat, lim = m := ⟨lim.toNat, by omega⟩
    by_cases h1 : m < n
    · have e : limN (m : Int) n = m := by unfold limN; rw [if_neg h0, Int.toNat_natCast]; omega
      rw [e]
      have h2 : (m : Int) < (n : Int) := by omega
      have h3 : min (m : Int) (n : Int) = m := by omega
      have h4 : ¬ (n : Int) < (m : Int) := by omega
      clear e
      go_enter Tryz.func34, Tryz.ntmps34
      go_wp2_with fail
      go_ret
      exact ⟨⟨_, rfl⟩, rfl⟩
    · have e : limN (m : Int) n = n := by unfold limN; rw [if_neg h0, Int.toNat_natCast]; omega
      rw [e]
      have h2 : ¬ (m : Int) < (n : Int) := by omega
      have h3 : min (m : Int) (n : Int) = n := by omega
      clear e
      go_enter Tryz.func34, Tryz.ntmps34
      go_wp2_with fail
      go_ret
      exact ⟨⟨_, rfl⟩, rfl⟩
end Go.Proofs.YtbenciieenbmeaaGreatDoor
/- answer: the order of lines: order$1 54. -/
namespace Go.Proofs.YtbenciieenbmeaaGreatDoor
open Go Go.Shelf Go.ChangeShapes Go.WideShapes Go.ChangeAt Go.RowKit Go.Maps
set_option linter.unusedVariables false
set_option maxRecDepth 100000
set_option maxHeartbeats 4000000
/-- nothing but draws and new blocks -/
def Grw (W w' : World) : Prop := ∃ q os, w' = Sort.grow (W.drewN q) os
theorem Grw.refl (W : World) : Grw W W := ⟨0, #[], by rw [Sort.grow_empty]; rfl⟩
theorem Grw.alloc {W w : World} (h : Grw W w) (o : Obj) : Grw W (w.alloc o) := by
  obtain ⟨q, os, rfl⟩ := h
  exact ⟨q, os ++ #[o], by rw [Sort.alloc_eq_grow, Sort.grow_grow]⟩
theorem Grw.drew {W w : World} (h : Grw W w) : Grw W w.drew := by
  obtain ⟨q, os, rfl⟩ := h
  exact ⟨q + 1, os, rfl⟩
theorem Grw.below {W w : World} (h : Grw W w) : Below W.heap.size W w := by
  obtain ⟨q, os, rfl⟩ := h
  refine ⟨rfl, rfl, rfl, ?_, fun k hk => ?_⟩
  · show W.heap.size ≤ (W.heap ++ os).size
    simp
  · show (W.heap ++ os)[k]? = W.heap[k]?
    rw [Array.getElem?_append_left hk]
theorem Grw.cmp {W w : World} (h : Grw W w) (x y : Cl) : Grw W (cmpW x y w) := (((h.alloc _).alloc _).drew).alloc _
/-- the comparison of two lines by keys -/
def cmpK : List (Int × Bool) → List Cl → List Cl → Int
  | [], _, _ => 0
  | k :: ks, L, M =>
    let c := cmpC (L.getD k.1.toNat .no) (M.getD k.1.toNat .no)
    let c' := if k.2 then -c else c
    if c' = 0 then cmpK ks L M else c'
theorem cmpC_or (x y : Cl) : cmpC x y = -1 ∨ cmpC x y = 0 ∨ cmpC x y = 1 := by
  have h1 : cmpI x.num y.num = -1 ∨ cmpI x.num y.num = 0 ∨ cmpI x.num y.num = 1 := by
    unfold cmpI
    split
    · exact .inl rfl
    · split
      · exact .inr (.inr rfl)
      · exact .inr (.inl rfl)
  have h2 : cmpS x.tx.data.toList y.tx.data.toList = -1 ∨ cmpS x.tx.data.toList y.tx.data.toList = 0 ∨ cmpS x.tx.data.toList y.tx.data.toList = 1 := by
    unfold cmpS
    split
    · exact .inl rfl
    · split
      · exact .inr (.inl rfl)
      · exact .inr (.inr rfl)
  unfold cmpC or2
  split
  · exact h1
  · exact h2
def ld70 (x : Value) : Sem Value := Instr.loadAt 70 x
theorem ld70_is (x : Value) : Instr.loadAt 70 x = ld70 x := rfl
theorem sz70 : (Tryz.prog.info? 70).map (·.size) = some 2 := by kernel_rfl
theorem run_ld70 {w : World} {b o : Nat} {x : Int × Bool} (h : w.rangeAt b o (kO.enc x)) : (ld70 (.pointer (some ⟨b, o, none⟩))).run Tryz.prog w = .ok (.agg #[.int .i64 x.1, .bool x.2]) w :=
  run_loadAt_mid (P := Tryz.prog) w b o 70 [.int .i64 x.1, .bool x.2] _ h Tryz.underlying70 rfl sz70
section
attribute [local go_sem ↓] ldC_is ld70_is
theorem cmp54 {W : World} {kv : Nat} {pK : Option Addr} {nK cK : Nat} {KS : List (Int × Bool)} (hkv : Bk W kv 25 [.slice pK nK cK]) (hK : Lies kO W pK KS) (hn : KS.length = nK) (hnb : nK ≤ 16777216) {pA : Option Addr} {nA cA : Nat} {LA : List Cl} (hA : Lies kC W pA LA) (hnA : LA.length = nA) {pB : Option Addr} {nB cB : Nat} {LB : List Cl} (hB : Lies kC W pB LB) (hnB : LB.length = nB) (hin : ∀ k ∈ KS, 0 ≤ k.1 ∧ k.1 < (nA : Int) ∧ k.1 < (nB : Int)) :
    Calls Tryz.prog 54 #[.slice pA nA cA, .slice pB nB cB, .pointer (some ⟨kv, 0, none⟩)] W fun e w' => e = .returned (.int .i64 (cmpK KS LA LB)) ∧ Grw W w' := by
  have k0 : W.cell? ⟨kv, 0, none⟩ = some (.slice pK nK cK) := hkv.cell 0
  have RD : Hid (∀ wr j, Grw W wr → (hj : j < nK) → ∃ b off x ba oa bb ob z A B, pK = some ⟨b, off, none⟩ ∧ KS[j]? = some x ∧ pA = some ⟨ba, oa, none⟩ ∧ pB = some ⟨bb, ob, none⟩ ∧ x.1 = ((z : Nat) : Int) ∧ z < nA ∧ z < nB ∧ A = LA.getD x.1.toNat .no ∧ B = LB.getD x.1.toNat .no ∧ (ld70 (.pointer (some ⟨b, off + j * 2, none⟩))).run Tryz.prog wr = .ok (.agg #[.int .i64 x.1, .bool x.2]) wr ∧
      ∀ w1, Grw W w1 → (ldC (.pointer (some ⟨ba, oa + z * 3, none⟩))).run Tryz.prog w1 = .ok A.val w1 ∧ (ldC (.pointer (some ⟨bb, ob + z * 3, none⟩))).run Tryz.prog w1 = .ok B.val w1) := by
    intro wr j hG hj
    have hjl : j < KS.length := by omega
    obtain ⟨b, off, e1, hbl, hr⟩ := hK.2 j hjl
    obtain ⟨h1, h2, h3⟩ := hin _ (List.getElem_mem hjl)
    have hz : ((KS[j].1.toNat : Nat) : Int) = KS[j].1 := by omega
    have hzA : KS[j].1.toNat < LA.length := by omega
    have hzB : KS[j].1.toNat < LB.length := by omega
    obtain ⟨ba, oa, eA, hblA, hrA⟩ := hA.2 _ hzA
    obtain ⟨bb, ob, eB, hblB, hrB⟩ := hB.2 _ hzB
    refine ⟨b, off, KS[j], ba, oa, bb, ob, KS[j].1.toNat, LA[KS[j].1.toNat], LB[KS[j].1.toNat], e1, List.getElem?_eq_getElem hjl, eA, eB, hz.symm, by omega, by omega, ?_, ?_, ?_, fun w1 hw1 => ⟨?_, ?_⟩⟩
    · rw [List.getD_eq_getElem?_getD, List.getElem?_eq_getElem hzA]; rfl
    · rw [List.getD_eq_getElem?_getD, List.getElem?_eq_getElem hzB]; rfl
    · exact run_ld70 (fun i u hu => (hG.below.cell (p := ⟨b, off + j * 2 + i, none⟩) hbl).trans (hr i u hu))
    · exact run_ldC (fun i u hu => (hw1.below.cell (p := ⟨ba, oa + _ * 3 + i, none⟩) hblA).trans (hrA i u hu))
    · exact run_ldC (fun i u hu => (hw1.below.cell (p := ⟨bb, ob + _ * 3 + i, none⟩) hblB).trans (hrB i u hu))
  have HC : Hid (∀ j x, KS[j]? = some x → KS.drop j = x :: KS.drop (j + 1)) := fun j x hx => by
    obtain ⟨hj, e⟩ := List.getElem?_eq_some_iff.1 hx
    rw [List.drop_eq_getElem_cons hj, e]
  have HN := hide hn
  obtain ⟨CK, hCK⟩ : ∃ v, v = cmpK KS LA LB := ⟨_, rfl⟩
  have HE : Hid (CK = cmpK (KS.drop 0) LA LB) := by show _ = _; rw [List.drop_zero]; exact hCK
  rw [← hCK]
  clear hCK
  have d55 := hide compare_any
  clear hkv hK hn hA hnA hB hnB hin
  go_enter Tryz.func54, Tryz.ntmps54
  go_wp2_with fail
  go_loopw [11] (fun v11 wr => ∃ (j : Nat), v11 = .int .i64 j ∧ j ≤ nK ∧ Hid (Grw W wr) ∧ Hid (CK = cmpK (KS.drop j) LA LB)) (fun v11 _ => nK - (intOf v11).toNat)
  case atStart => exact ⟨0, rfl, by omega, Grw.refl W, unhide HE⟩
  case round =>
    obtain ⟨j, rfl, hj, hG, hE⟩ := hrel
    clear k0
    by_cases hlt : j < nK
    · obtain ⟨b, off, x, ba, oa, bb, ob, z, A, B, e1, hx, e2, e3, hxz, hzA, hzB, eA, eB, l1, hf⟩ := unhide RD wr j (unhide hG) hlt
      obtain ⟨x1, x2⟩ := x
      simp only at hxz l1 eA eB
      subst hxz
      have HDR := hide (unhide HC j _ hx)
      have HF := hide hf
      subst e1
      subst e2
      subst e3
      obtain ⟨c, hc⟩ : ∃ c, c = cmpC A B := ⟨_, rfl⟩
      have hor := cmpC_or A B
      rw [← hc] at hor
      have hstep : Hid (cmpK (KS.drop j) LA LB = if (if x2 then -c else c) = 0 then cmpK (KS.drop (j + 1)) LA LB else (if x2 then -c else c)) := by
        show _ = _
        rw [unhide HDR]
        show (if (if x2 then -cmpC (LA.getD ((z : Int)).toNat .no) (LB.getD ((z : Int)).toNat .no) else _) = 0 then _ else _) = _
        rw [← eA, ← eB, ← hc]
      have HCC := hide hc
      have hkn : (j : Int) < (nK : Int) := by omega
      have h3 : ¬ (j : Int) < 0 := by omega
      have hzA' : (z : Int) < (nA : Int) := by omega
      have hzB' : (z : Int) < (nB : Int) := by omega
      have hz0 : ¬ (z : Int) < 0 := by omega
      clear hf hx RD hc eA eB
      go_upto_region 4 with fail
      obtain ⟨Z, hZ⟩ : ∃ Z, Z = wr.alloc (.cells #[.int .i64 (z : Int), .bool x2] 70) := ⟨_, rfl⟩
      have hGZ : Grw W Z := by rw [hZ]; exact (unhide hG).alloc _
      have z0 : Bk Z wr.heap.size 70 [.int .i64 (z : Int), .bool x2] := by show Z.heap[_]? = _; rw [hZ]; exact heap_new _ _
      have hzl := z0.lt
      have ZF : Hid (∀ w1, Below Z.heap.size Z w1 → Grw W w1 → w1.cell? ⟨wr.heap.size, 0, none⟩ = some (.int .i64 (z : Int)) ∧ (ldC (.pointer (some ⟨ba, oa + z * 3, none⟩))).run Tryz.prog w1 = .ok A.val w1 ∧ (ldC (.pointer (some ⟨bb, ob + z * 3, none⟩))).run Tryz.prog w1 = .ok B.val w1) := fun w1 hb hg => by
        obtain ⟨f1, f2⟩ := unhide HF w1 hg
        exact ⟨(z0.same (hb.block _ hzl)).cell 0, f1, f2⟩
      have Z1 : Hid (∀ w1, Below Z.heap.size Z w1 → w1.cell? ⟨wr.heap.size, 1, none⟩ = some (.bool x2)) := fun w1 hb => (z0.same (hb.block _ hzl)).cell 1
      have hbd : Below Z.heap.size Z Z.drew := below_drewN (Below.refl _ Z) 1
      have S0 := unhide ZF _ hbd hGZ.drew
      have hb2 : Below Z.heap.size Z (cmpW A B Z.drew) := hbd.trans (cmpW_below A B Z.drew)
      have HG2 : Hid (Grw W (cmpW A B Z.drew)) := hGZ.drew.cmp A B
      have HS2 := hide (unhide ZF _ hb2 (unhide HG2))
      have y1 := unhide Z1 _ hb2
      have HZ := hide hZ
      have D55 := hide (unhide d55 A B Z.drew)
      obtain ⟨X, hX⟩ : ∃ X, X = cmpW A B Z.drew := ⟨_, rfl⟩
      rw [← hX] at HG2 HS2 y1 D55
      rw [← unhide HCC] at D55
      clear hZ hGZ z0 hzl hbd hb2 hX ZF Z1 HF
      rw [← unhide HZ]
      refine wp_region_last (n := 12) (S := fun W' => W'.cell? ⟨wr.heap.size, 0, none⟩ = some (.int .i64 (z : Int)) ∧ (ldC (.pointer (some ⟨ba, oa + z * 3, none⟩))).run Tryz.prog W' = .ok A.val W' ∧ (ldC (.pointer (some ⟨bb, ob + z * 3, none⟩))).run Tryz.prog W' = .ok B.val W') (by kernel_rfl) S0 (fun hHeld => ?_)
      refine tkW 0 ?_; refine tkW 1 ?_; refine tkN 2 ?_; refine tkW 3 ?_; refine tkN 4 ?_; refine tkW 5 ?_; refine tkW 6 ?_; refine tkN 7 ?_; refine tkW 8 ?_; refine tkN 9 ?_
      refine wpAnyL_one (i := 10) (by kernel_rfl) rfl (fun KK hK => ?_)
      go_simp
      go_wp2_with fail
      refine (unhide D55).mono ?_
      rintro e w1 ⟨rfl, hw⟩
      rw [hw]
      clear hw w1
      go_wp2_with fail
      refine hK.out _ _ (unhide HS2) (fun hHeld => ?_)
      clear hK KK
      refine tkW 11 ?_
      refine wpAnyL_done (by kernel_rfl) ?_
      clear hHeld S0 HS2 D55
      have hst := unhide hstep
      cases x2 with
      | true =>
        have hst : cmpK (KS.drop j) LA LB = if -c = 0 then cmpK (KS.drop (j + 1)) LA LB else -c := hst
        by_cases h0 : c = 0
        · have HNX : Hid (CK = cmpK (KS.drop (j + 1)) LA LB) := by show _ = _; rw [unhide hE, hst, if_pos (by omega)]
          subst h0
          clear hst hstep hor
          go_wp2_with fail
          exact ⟨⟨j + 1, by go_num, by omega, unhide HG2, unhide HNX⟩, by simp [intOf]; omega⟩
        · have HNX : Hid (CK = -c) := by show _ = _; rw [unhide hE, hst, if_neg (by omega)]
          have hw : IntKind.i64.wrap (-c) = -c := by rw [IntKind.wrap_i64]; omega
          have hnz : (-c != 0) = true := by simp; omega
          have hnz2 : ¬ c = 0 := h0
          clear hst hstep hor h0
          go_wp2_with fail
          go_ret
          exact ⟨by rw [unhide HNX]; rfl, unhide HG2⟩
      | false =>
        have hst : cmpK (KS.drop j) LA LB = if c = 0 then cmpK (KS.drop (j + 1)) LA LB else c := hst
        by_cases h0 : c = 0
        · have HNX : Hid (CK = cmpK (KS.drop (j + 1)) LA LB) := by show _ = _; rw [unhide hE, hst, if_pos h0]
          subst h0
          clear hst hstep hor
          go_wp2_with fail
          exact ⟨⟨j + 1, by go_num, by omega, unhide HG2, unhide HNX⟩, by simp [intOf]; omega⟩
        · have HNX : Hid (CK = c) := by show _ = _; rw [unhide hE, hst, if_neg h0]
          have hnz : (c != 0) = true := by simp [h0]
          clear hst hstep hor
          go_wp2_with fail
          go_ret
          exact ⟨by rw [unhide HNX]; rfl, unhide HG2⟩
    · have hjn : j = nK := by omega
      subst hjn
      have HZ0 : Hid (CK = 0) := by
        show _ = _
        rw [unhide hE, List.drop_of_length_le (by rw [unhide HN]; exact Nat.le_refl _)]
        rfl
      go_wp2_with fail
      go_ret
      exact ⟨by rw [unhide HZ0]; rfl, unhide hG⟩
end
end Go.Proofs.YtbenciieenbmeaaGreatDoor
/- answer: sortKeys$1 95. -/
namespace Go.Proofs.YtbenciieenbmeaaGreatDoor
open Go Go.Shelf Go.ChangeShapes Go.WideShapes Go.ChangeAt Go.RowKit Go.Maps
set_option linter.unusedVariables false
set_option maxRecDepth 100000
set_option maxHeartbeats 4000000
/-- keys, each place once -/
def addK (ks : List (Int × Bool)) (x : Int × Bool) : List (Int × Bool) := if x.1 ∈ ks.map (·.1) then ks else ks ++ [x]
/-- where sortKeys stands: its two variables, what was seen, the keys -/
structure Sk (B : Nat) (w : World) (sv kv sb n : Nat) (bs : List Bool) (vK : Value) (ks : List (Int × Bool)) : Prop where
  s : Bk w sv 179 [.slice (some ⟨sb, 0, none⟩) n n]
  k : Bk w kv 25 [vK]
  b : Bk w sb 4 (bs.map Value.bool)
  bn : bs.length = n
  row : w.ownsRow B kO.e kO.s vK ks.length (kO.flat ks)
  seen : ∀ i, i < n → (bs[i]? = some true ↔ (i : Int) ∈ ks.map (·.1))
  lo : B ≤ sv ∧ B ≤ kv ∧ B ≤ sb
theorem Sk.below {B : Nat} {w w' : World} {sv kv sb n : Nat} {bs : List Bool} {vK : Value} {ks : List (Int × Bool)} (h : Sk B w sv kv sb n bs vK ks) (hb : Below w.heap.size w w') : Sk B w' sv kv sb n bs vK ks :=
  ⟨h.s.same (hb.block _ h.s.lt), h.k.same (hb.block _ h.k.lt), h.b.same (hb.block _ h.b.lt), h.bn, row_keep h.row (fun g hg => hb.block g (row_block h.row hg).2.1), h.seen, h.lo⟩
theorem add_any {B : Nat} {w : World} {sv kv sb n : Nat} {bs : List Bool} {vK : Value} {ks : List (Int × Bool)} (h : Sk B w sv kv sb n bs vK ks) (hB : B ≤ w.heap.size) (hn : n ≤ 8388608) (hkn : ks.length ≤ 16777216) (i : Nat) (hi : i < n) (d : Bool) :
    Calls Tryz.prog 95 #[.int .i64 (i : Int), .bool d, .pointer (some ⟨sv, 0, none⟩), .pointer (some ⟨kv, 0, none⟩)] w fun e w' => e = .returned (.tuple #[]) ∧ Below B w w' ∧ (∃ bs' vK', Sk B w' sv kv sb n bs' vK' (addK ks ((i : Int), d))) ∧ (∀ j, j < w.heap.size → j ≠ kv → j ≠ sb → vK.ownBlock ≠ some j → w'.heap[j]? = w.heap[j]?) := by
  have c0 : w.cell? ⟨sv, 0, none⟩ = some (.slice (some ⟨sb, 0, none⟩) n n) := h.s.cell 0
  have hib : i < bs.length := by rw [h.bn]; exact hi
  have cb : w.cell? ⟨sb, i, none⟩ = some (.bool bs[i]) := by rw [h.b.cell, List.getElem?_map, List.getElem?_eq_getElem hib]; rfl
  have hsk : sv ≠ kv := ne_type h.s h.k (by decide)
  have hsb : sv ≠ sb := ne_type h.s h.b (by decide)
  have hkb : kv ≠ sb := ne_type h.k h.b (by decide)
  have hin : (i : Int) < (n : Int) := by omega
  have hi0 : ¬ (i : Int) < 0 := by omega
  by_cases hb : bs[i] = true
  · have hmem : (i : Int) ∈ ks.map (·.1) := (h.seen i hi).1 (by rw [List.getElem?_eq_getElem hib, hb])
    have HE : Hid (∃ bs' vK', Sk B w sv kv sb n bs' vK' (addK ks ((i : Int), d))) := by
      refine ⟨bs, vK, ?_⟩
      unfold addK
      rw [if_pos hmem]
      exact h
    rw [hb] at cb
    clear h hib hmem hb
    go_enter Tryz.func95, Tryz.ntmps95
    go_wp2_with fail
    refine bodyPost_end (v := .tuple #[]) (by simp [results, Tryz.results95]) rfl ?_
    exact ⟨rfl, Below.refl _ _, unhide HE, fun _ _ _ _ _ => rfl⟩
  · have hb' : bs[i] = false := by simpa using hb
    have hnm : (i : Int) ∉ ks.map (·.1) := fun hm => by
      have := (h.seen i hi).2 hm
      rw [List.getElem?_eq_getElem hib] at this
      exact hb (Option.some.inj this)
    have hfz : w.frozen? ⟨sb, i, none⟩ = false := by simp [World.frozen?, show w.heap[sb]? = some _ from h.b]
    obtain ⟨w1, hw1⟩ : ∃ w1, w1 = w.setCell ⟨sb, i, none⟩ (.bool true) := ⟨_, rfl⟩
    have h1 : ∀ j : Nat, j ≠ sb → w1.heap[j]? = w.heap[j]? := fun j hj => by rw [hw1]; exact Below.heap_setCell _ _ _ _ hj
    have hs1 : w1.heap.size = w.heap.size := by rw [hw1]; simp [World.setCell]
    have b1 : Bk w1 sb 4 ((bs.set i true).map Value.bool) := by
      have := h.b
      rw [hw1]
      unfold Bk at this ⊢
      rw [setC this, List.map_set]
      simp
    have k1 : w1.cell? ⟨kv, 0, none⟩ = some vK := (h.k.same (h1 kv hkb)).cell 0
    have r1 : w1.ownsRow B kO.e kO.s vK ks.length (kO.flat ks) := row_keep h.row (fun g hg => h1 g (fun e => by
      obtain ⟨cur, hc⟩ := row_at h.row hg
      exact ne_type hc h.b (by decide) e))
    obtain ⟨p, c, w2, r2, o2, bl2, st2, lo2, sz2⟩ := app1 kO_ok r1 (by omega) ((i : Int), d) #[.int .i64 (i : Int), .bool d] rfl 25 (by omega)
    have nbk : vK.ownBlock ≠ some kv := fun e => by
      obtain ⟨cur, hc⟩ := row_at h.row e
      exact ne_type hc h.k (by decide) rfl
    have nbs : vK.ownBlock ≠ some sb := fun e => by
      obtain ⟨cur, hc⟩ := row_at h.row e
      exact ne_type hc h.b (by decide) rfl
    have nbv : vK.ownBlock ≠ some sv := fun e => by
      obtain ⟨cur, hc⟩ := row_at h.row e
      exact ne_type hc h.s (by decide) rfl
    have k2 : Bk w2 kv 25 [vK] := (h.k.same (h1 kv hkb)).same (st2 kv (by have := h.k.lt; omega) nbk)
    have kc2 : w2.cell? ⟨kv, 0, none⟩ = some vK := k2.cell 0
    have kf2 : w2.frozen? ⟨kv, 0, none⟩ = false := by simp [World.frozen?, show w2.heap[kv]? = some _ from k2]
    obtain ⟨w3, hw3⟩ : ∃ w3, w3 = w2.setCell ⟨kv, 0, none⟩ (.slice p (ks.length + 1) c) := ⟨_, rfl⟩
    have h3 : ∀ j : Nat, j ≠ kv → w3.heap[j]? = w2.heap[j]? := fun j hj => by rw [hw3]; exact Below.heap_setCell _ _ _ _ hj
    have HE : Hid (Below B w w3 ∧ (∃ bs' vK', Sk B w3 sv kv sb n bs' vK' (addK ks ((i : Int), d))) ∧ (∀ j, j < w.heap.size → j ≠ kv → j ≠ sb → vK.ownBlock ≠ some j → w3.heap[j]? = w.heap[j]?)) := by
      refine ⟨?_, ⟨bs.set i true, .slice p (ks.length + 1) c, ?_⟩, fun j hj h4 h5 h6 => (h3 j h4).trans ((st2 j (by omega) h6).trans (h1 j h5))⟩
      · have g1 : Below B w w1 := by rw [hw1]; exact (Below.refl _ w).setCell (p := ⟨sb, i, none⟩) h.lo.2.2 _
        rw [hw3]
        exact (g1.trans bl2).setCell (p := ⟨kv, 0, none⟩) h.lo.2.1 _
      · unfold addK
        rw [if_neg hnm]
        refine ⟨?_, ?_, ?_, by rw [List.length_set]; exact h.bn, ?_, ?_, h.lo⟩
        · exact h.s.same ((h3 sv hsk).trans ((st2 sv (by have := h.s.lt; omega) nbv).trans (h1 sv hsb)))
        · rw [hw3]
          unfold Bk at k2 ⊢
          rw [setC k2]
          rfl
        · exact b1.same ((h3 sb (fun e => hkb e.symm)).trans (st2 sb (by have := h.b.lt; omega) nbs))
        · rw [List.length_append]
          refine row_keep o2 (fun g hg => h3 g (fun e => ?_))
          obtain ⟨cur, hc⟩ := row_at o2 hg
          exact ne_type hc k2 (by decide) e
        · intro j hj
          rw [List.map_append, List.mem_append]
          by_cases e : i = j
          · subst e
            rw [List.getElem?_set_self hib]
            exact ⟨fun _ => .inr (by simp), fun _ => rfl⟩
          · rw [List.getElem?_set_ne e, h.seen j hj]
            constructor
            · exact .inl
            · rintro (h7 | h7)
              · exact h7
              · have : (j : Int) = (i : Int) := by simpa using h7
                omega
    have r2 : (Builtin.append_ #[25, 25] 25 #[vK, .slice (some ⟨w1.heap.size, 0, none⟩) 1 1]).run Tryz.prog (w1.alloc (.cells #[.int .i64 (i : Int), .bool d] 70)) = .ok (.slice p (ks.length + 1) c) w2 := r2
    have HR2 := hide r2
    have HW1 := hide hw1
    have HW3 := hide hw3
    obtain ⟨nk, hnk⟩ : ∃ m, m = ks.length := ⟨_, rfl⟩
    obtain ⟨pk, ck, evk, _, _⟩ := row_slice h.row
    rw [← hnk] at evk HR2 HW3
    subst evk
    rw [hb'] at cb
    clear h hib hnm hb hb' h1 hs1 b1 r1 o2 bl2 st2 lo2 sz2 nbk nbs nbv k2 h3 r2 hw1 hw3 hnk
    go_enter Tryz.func95, Tryz.ntmps95
    go_upto_region 2 with fail
    rw [← unhide HW1]
    go_wp2_with (first | (at_builtin; refine wpList_append_run rfl _ _ 25 rfl _ _ _ _ rfl rfl (unhide HR2) ?_))
    rw [← unhide HW3]
    refine bodyPost_end (v := .tuple #[]) (by simp [results, Tryz.results95]) rfl ?_
    exact ⟨rfl, unhide HE⟩
theorem addK_len (ks : List (Int × Bool)) (x : Int × Bool) : (addK ks x).length ≤ ks.length + 1 := by
  unfold addK
  split
  · omega
  · rw [List.length_append]; exact Nat.le_refl _
def addL (L : List (Int × Bool)) : List (Int × Bool) := L.foldl addK []
theorem addL_snoc (L : List (Int × Bool)) (x : Int × Bool) : addL (L ++ [x]) = addK (addL L) x := by unfold addL; rw [List.foldl_append]; rfl
theorem addL_len (L : List (Int × Bool)) : (addL L).length ≤ L.length := by
  refine onD_ind (p := fun L => (addL L).length ≤ L.length) (Nat.le_refl _) (fun L y ih => ?_) L
  rw [addL_snoc, List.length_append]
  exact Nat.le_trans (addK_len _ _) (by simpa using ih)
/-- what the keys are made of: the orders' places, then the fields' -/
def keyO (P : List Int) (O : List (Int × Bool)) : List (Int × Bool) := O.map (fun x => (P.getD x.1.toNat 0, x.2))
def keyF (nF : Nat) : List (Int × Bool) := (List.range nF).map (fun (i : Nat) => ((i : Int), false))
def keysL (P : List Int) (O : List (Int × Bool)) (nF : Nat) : List (Int × Bool) := addL (keyO P O ++ keyF nF)
theorem made_bools (n : Nat) : madeCells (Value.bool false).cells (n * 1) = ((List.replicate n false).map Value.bool).toArray := by
  apply Array.ext
  · rw [size_madeCells]; simp
  · intro i h1 h2
    simp [madeCells, Value.cells, Nat.mod_one]
theorem info4 : (Tryz.prog.info? 4).map (fun i => (i.zero, i.size, i.bytes)) = some (some (.bool false), 1, 1) := by kernel_rfl
theorem eg95 (args : Array Value) (w : World) : (callFunc 95 args).run Tryz.prog w = .ok (.enter 95 args) w := by kernel_rfl
section
attribute [local go_sem ↓] ld70_is
theorem sortKeys_any {W : World} {pF : Option Addr} {nF cF : Nat} {pU : Option Addr} {nU cU : Nat} {pP : Option Addr} {nP cP : Nat} {P : List Int} {pO : Option Addr} {nO cO : Nat} {O : List (Int × Bool)} (hP : Lies kI W pP P) (hnP : P.length = nP) (hO : Lies kO W pO O) (hnO : O.length = nO) (hF : nF ≤ 14) (hU : nU ≤ 1048576) (hOb : nO ≤ 1048576) (hPi : ∀ z ∈ P, 0 ≤ z ∧ z < ((nF + nU : Nat) : Int)) (hOi : ∀ x ∈ O, 0 ≤ x.1 ∧ x.1 < (nP : Int)) :
    Calls Tryz.prog 53 #[.agg #[.slice pF nF cF, .slice pU nU cU, .slice pP nP cP], .slice pO nO cO] W fun e w' => ∃ p c, e = .returned (.slice p (keysL P O nF).length c) ∧ Below W.heap.size W w' ∧ Lies kO w' p (keysL P O nF) ∧ ∀ b o, p = some ⟨b, o, none⟩ → W.heap.size ≤ b := by
  obtain ⟨N, hN⟩ : ∃ N, N = nF + nU := ⟨_, rfl⟩
  obtain ⟨A, hA⟩ : ∃ A, A = (W.alloc (.cells #[.slice pF nF cF, .slice pU nU cU, .slice pP nP cP] 80)).alloc (.cells #[.slice none 0 0] 25) := ⟨_, rfl⟩
  have hAs : A.heap.size = W.heap.size + 2 := by rw [hA]; simp
  have hBA : Below W.heap.size W A := by rw [hA]; exact Below.a2 W _ _
  have b80 : Bk A W.heap.size 80 [.slice pF nF cF, .slice pU nU cU, .slice pP nP cP] := by
    show A.heap[_]? = _
    rw [hA, Below.heap_alloc _ _ _ (by simp)]
    exact heap_new _ _
  have b25 : Bk A (W.heap.size + 1) 25 [.slice none 0 0] := by
    show A.heap[_]? = _
    have := heap_new (W.alloc (.cells #[.slice pF nF cF, .slice pU nU cU, .slice pP nP cP] 80)) (.cells #[.slice none 0 0] 25)
    simp only [World.size_alloc] at this
    rw [hA]; exact this
  have a0 : A.cell? ⟨W.heap.size, 0, none⟩ = some (.slice pF nF cF) := b80.cell 0
  have a1 : A.cell? ⟨W.heap.size, 1, none⟩ = some (.slice pU nU cU) := b80.cell 1
  have hwN : IntKind.i64.wrap ((nF : Int) + (nU : Int)) = (N : Int) := by rw [IntKind.wrap_i64]; omega
  have hmk : (Instr.makeSlice 179 (.int .i64 (N : Int)) (.int .i64 (N : Int))).run Tryz.prog A = .ok (.slice (some ⟨A.heap.size, 0, none⟩) N N) (A.alloc (.cells (madeCells (Value.bool false).cells (N * 1)) 4)) := run_mk A 179 4 Tryz.underlying179 info4 N (by omega) (by omega)
  obtain ⟨M, hM⟩ : ∃ M, M = A.alloc (.cells (madeCells (Value.bool false).cells (N * 1)) 4) := ⟨_, rfl⟩
  rw [← hM] at hmk
  obtain ⟨M2, hM2⟩ : ∃ M2, M2 = M.alloc (.cells #[.slice (some ⟨A.heap.size, 0, none⟩) N N] 179) := ⟨_, rfl⟩
  have hMs : M.heap.size = A.heap.size + 1 := by rw [hM]; simp
  have hM2s : M2.heap.size = A.heap.size + 2 := by rw [hM2]; simp [hMs]
  have hBM : Below A.heap.size A M2 := by rw [hM2, hM]; exact Below.a2 A _ _
  have hb0 : Bk M2 A.heap.size 4 ((List.replicate N false).map Value.bool) := by
    show M2.heap[_]? = _
    rw [hM2, Below.heap_alloc _ _ _ (by omega), hM, ← made_bools]
    exact heap_new _ _
  have hs0 : Bk M2 (A.heap.size + 1) 179 [.slice (some ⟨A.heap.size, 0, none⟩) N N] := by
    show M2.heap[_]? = _
    have := heap_new M (.cells #[.slice (some ⟨A.heap.size, 0, none⟩) N N] 179)
    rw [hMs] at this
    rw [hM2]; exact this
  have S0 : Hid (∃ bs vK, Sk W.heap.size M2 (A.heap.size + 1) (W.heap.size + 1) A.heap.size N bs vK (addL (keyO P (O.take 0)))) := by
    refine ⟨List.replicate N false, .slice none 0 0, hs0, b25.same (hBM.block _ (by omega)), hb0, List.length_replicate, ?_, fun i hi => ?_, by omega, by omega, by omega⟩
    · rw [List.take_zero]; exact ⟨by simp [Kd.flat, keyO, addL], .inl ⟨rfl, rfl⟩⟩
    · rw [List.take_zero, List.getElem?_replicate, if_pos hi]
      exact ⟨fun h => by simp at h, fun h => by simp [keyO, addL] at h⟩
  have B80 : Hid (Bk M2 W.heap.size 80 [.slice pF nF cF, .slice pU nU cU, .slice pP nP cP]) := b80.same (hBM.block _ (by omega))
  have HBM2 : Hid (Below W.heap.size W M2) := hBA.trans (hBM.mono (by omega))
  -- a round of the first loop
  have RD : Hid (∀ wr j, Below W.heap.size W wr → Bk wr W.heap.size 80 [.slice pF nF cF, .slice pU nU cU, .slice pP nP cP] → (∃ bs vK, Sk W.heap.size wr (A.heap.size + 1) (W.heap.size + 1) A.heap.size N bs vK (addL (keyO P (O.take j)))) → (hj : j < nO) → ∃ b off x y bP oP cc z, pO = some ⟨b, off, none⟩ ∧ pP = some ⟨bP, oP, none⟩ ∧ x = ((cc : Nat) : Int) ∧ cc < nP ∧ (ld70 (.pointer (some ⟨b, off + j * 2, none⟩))).run Tryz.prog wr = .ok (.agg #[.int .i64 x, .bool y]) wr ∧
      ∀ Z, Z = (wr.alloc (.cells #[.int .i64 x, .bool y] 70)).drew → Z.cell? ⟨W.heap.size, 2, none⟩ = some (.slice pP nP cP) ∧ Z.cell? ⟨bP, oP + cc, none⟩ = some (.int .i64 ((z : Nat) : Int)) ∧
        Calls Tryz.prog 95 #[.int .i64 ((z : Nat) : Int), .bool y, .pointer (some ⟨A.heap.size + 1, 0, none⟩), .pointer (some ⟨W.heap.size + 1, 0, none⟩)] Z fun e w' => e = .returned (.tuple #[]) ∧ w'.cell? ⟨W.heap.size, 2, none⟩ = some (.slice pP nP cP) ∧ w'.cell? ⟨bP, oP + cc, none⟩ = some (.int .i64 ((z : Nat) : Int)) ∧ w'.cell? ⟨wr.heap.size, 0, none⟩ = some (.int .i64 x) ∧ w'.cell? ⟨wr.heap.size, 1, none⟩ = some (.bool y) ∧ Below W.heap.size W w' ∧ Bk w' W.heap.size 80 [.slice pF nF cF, .slice pU nU cU, .slice pP nP cP] ∧ (∃ bs vK, Sk W.heap.size w' (A.heap.size + 1) (W.heap.size + 1) A.heap.size N bs vK (addL (keyO P (O.take (j + 1)))))) := by
    intro wr j hB h80 hSk hj
    have hjl : j < O.length := by omega
    obtain ⟨b, off, e1, hbl, hr⟩ := hO.2 j hjl
    obtain ⟨o1, o2⟩ := hOi _ (List.getElem_mem hjl)
    have hcc : O[j].1.toNat < P.length := by omega
    obtain ⟨bP, oP, e2, hbP, hrP⟩ := hP.2 _ hcc
    obtain ⟨z1, z2⟩ := hPi _ (List.getElem_mem hcc)
    obtain ⟨bs, vK, hS⟩ := hSk
    have hz : ((P[O[j].1.toNat].toNat : Nat) : Int) = P[O[j].1.toNat] := by omega
    refine ⟨b, off, O[j].1, O[j].2, bP, oP, O[j].1.toNat, P[O[j].1.toNat].toNat, e1, e2, by omega, by omega, ?_, fun Z hZ => ?_⟩
    · exact run_ld70 (fun i u hu => (hB.cell (p := ⟨b, off + j * 2 + i, none⟩) hbl).trans (hr i u hu))
    · have hBZ : Below wr.heap.size wr Z := by rw [hZ]; exact below_drewN (Below.a1 wr _) 1
      have hBWZ : Below W.heap.size W Z := hB.trans (hBZ.mono hB.size)
      have h80Z := h80.same (hBZ.block _ h80.lt)
      have cP : ∀ w' : World, Below W.heap.size W w' → w'.cell? ⟨bP, oP + O[j].1.toNat, none⟩ = some (.int .i64 ((P[O[j].1.toNat].toNat : Nat) : Int)) := fun w' hw => by
        have := hrP 0 (.int .i64 P[O[j].1.toNat]) rfl
        rw [hz, ← this]
        have e : (⟨bP, oP + O[j].1.toNat * kI.s + 0, none⟩ : Addr) = ⟨bP, oP + O[j].1.toNat, none⟩ := by simp [kI]
        rw [e]
        exact hw.cell (p := ⟨bP, oP + O[j].1.toNat, none⟩) hbP
      have hSZ := hS.below hBZ
      have hlen : (addL (keyO P (O.take j))).length ≤ 16777216 := by
        have h1 := addL_len (keyO P (O.take j))
        unfold keyO at h1
        rw [List.length_map, List.length_take] at h1
        unfold keyO
        omega
      have hzN : P[O[j].1.toNat].toNat < N := by omega
      have hbox : Bk Z wr.heap.size 70 [.int .i64 O[j].1, .bool O[j].2] := by
        show Z.heap[_]? = _
        rw [hZ]
        exact heap_new wr _
      refine ⟨h80Z.cell 2, cP Z hBWZ, (add_any hSZ hBWZ.size (by omega) hlen _ hzN O[j].2).mono fun e w' ⟨he, hbe, hsk, hst⟩ => ?_⟩
      have hBw : Below W.heap.size W w' := hBWZ.trans hbe
      have hvk : ∀ {x : Nat}, vK.ownBlock = some x → x < wr.heap.size := fun {x} e => (row_block hS.row e).2.1
      have h80w := h80Z.same (hst _ h80Z.lt (by omega) (by omega) (fun e => by obtain ⟨cur, hc⟩ := row_at hSZ.row e; exact ne_type hc h80Z (by decide) rfl))
      have hboxw := hbox.same (hst _ hbox.lt (by have := hS.k.lt; omega) (by have := hS.b.lt; omega) (fun e => by have := hvk e; omega))
      refine ⟨he, h80w.cell 2, cP w' hBw, hboxw.cell 0, hboxw.cell 1, hBw, h80w, ?_⟩
      have hk : addL (keyO P (O.take (j + 1))) = addK (addL (keyO P (O.take j))) (((P[O[j].1.toNat].toNat : Nat) : Int), O[j].2) := by
        rw [← addL_snoc]
        congr 1
        unfold keyO
        rw [List.take_succ_eq_append_getElem hjl, List.map_append, hz]
        congr 1
        show [(P.getD O[j].1.toNat 0, O[j].2)] = [_]
        rw [List.getD_eq_getElem?_getD, List.getElem?_eq_getElem hcc]
        rfl
      rw [hk]
      exact hsk
  -- a round of the second one
  have RF : Hid (∀ wr j, Below W.heap.size W wr → Bk wr W.heap.size 80 [.slice pF nF cF, .slice pU nU cU, .slice pP nP cP] → (∃ bs vK, Sk W.heap.size wr (A.heap.size + 1) (W.heap.size + 1) A.heap.size N bs vK (addL (keyO P O ++ (keyF nF).take j))) → (hj : j < nF) →
      Calls Tryz.prog 95 #[.int .i64 ((j : Nat) : Int), .bool false, .pointer (some ⟨A.heap.size + 1, 0, none⟩), .pointer (some ⟨W.heap.size + 1, 0, none⟩)] wr fun e w' => e = .returned (.tuple #[]) ∧ Below W.heap.size W w' ∧ Bk w' W.heap.size 80 [.slice pF nF cF, .slice pU nU cU, .slice pP nP cP] ∧ (∃ bs vK, Sk W.heap.size w' (A.heap.size + 1) (W.heap.size + 1) A.heap.size N bs vK (addL (keyO P O ++ (keyF nF).take (j + 1))))) := by
    intro wr j hB h80 hSk hj
    obtain ⟨bs, vK, hS⟩ := hSk
    have hlen : (addL (keyO P O ++ (keyF nF).take j)).length ≤ 16777216 := by
      have h1 := addL_len (keyO P O ++ (keyF nF).take j)
      rw [List.length_append, List.length_take] at h1
      have h2 : (keyO P O).length = O.length := by unfold keyO; rw [List.length_map]
      omega
    refine (add_any hS hB.size (by omega) hlen j (by omega) false).mono fun e w' ⟨he, hbe, hsk, hst⟩ => ⟨he, hB.trans hbe, h80.same (hst _ h80.lt (by omega) (by omega) (fun e => by obtain ⟨cur, hc⟩ := row_at hS.row e; exact ne_type hc h80 (by decide) rfl)), ?_⟩
    have hfl : j < (keyF nF).length := by unfold keyF; rw [List.length_map, List.length_range]; exact hj
    have hk : addL (keyO P O ++ (keyF nF).take (j + 1)) = addK (addL (keyO P O ++ (keyF nF).take j)) ((j : Int), false) := by
      have hk0 : (keyF nF)[j] = ((j : Int), false) := (List.getElem_map _).trans (by rw [List.getElem_range])
      rw [← addL_snoc, List.take_succ_eq_append_getElem hfl, ← List.append_assoc, hk0]
    rw [hk]
    exact hsk
  have HN0 : Hid (addL (keyO P (O.take nO)) = addL (keyO P O ++ (keyF nF).take 0)) := by
    show _ = _
    rw [List.take_zero, List.append_nil, List.take_of_length_le (by omega)]
  have HNE : Hid (addL (keyO P O ++ (keyF nF).take nF) = keysL P O nF) := by
    show _ = _
    rw [List.take_of_length_le (by unfold keyF; rw [List.length_map, List.length_range]; exact Nat.le_refl _)]
    rfl
  have C0 : Hid (∀ wr, Bk wr W.heap.size 80 [.slice pF nF cF, .slice pU nU cU, .slice pP nP cP] → wr.cell? ⟨W.heap.size, 0, none⟩ = some (.slice pF nF cF)) := fun wr h => h.cell 0
  have hmk : (Instr.makeSlice 179 (.int .i64 ((nF : Int) + (nU : Int))) (.int .i64 ((nF : Int) + (nU : Int)))).run Tryz.prog A = .ok (.slice (some ⟨A.heap.size, 0, none⟩) N N) M := by
    have e : (nF : Int) + (nU : Int) = (N : Int) := by omega
    rw [e]; exact hmk
  have eg := eg95
  have HA := hide hA
  have HM2 : Hid (M2 = M.alloc (.cells #[.slice (some ⟨A.heap.size, 0, none⟩) N N] 179)) := hM2
  have hMs' := hMs
  clear hA hAs hBA b80 b25 hM hM2 hM2s hBM hb0 hs0 hP hnP hO hnO hPi hOi hMs hwN hN
  go_enter Tryz.func53, Tryz.ntmps53
  go_upto_region 2 with fail
  rw [← unhide HA]
  go_upto_region 4 with fail
  rw [← unhide HM2]
  clear hmk a0 a1 hMs'
  go_wp2_with fail
  go_loopw [22] (fun v22 wr => ∃ (j : Nat), v22 = .int .i64 j ∧ j ≤ nO ∧ Hid (Below W.heap.size W wr) ∧ Hid (Bk wr W.heap.size 80 [.slice pF nF cF, .slice pU nU cU, .slice pP nP cP]) ∧ Hid (∃ bs vK, Sk W.heap.size wr (A.heap.size + 1) (W.heap.size + 1) A.heap.size N bs vK (addL (keyO P (O.take j))))) (fun v22 _ => nO - (intOf v22).toNat)
  case atStart => exact ⟨0, rfl, by omega, unhide HBM2, unhide B80, unhide S0⟩
  case round =>
    obtain ⟨j, rfl, hj, hB, h80, hS⟩ := hrel
    by_cases hlt : j < nO
    · obtain ⟨b, off, x, y, bP, oP, cc, z, e1, e2, hx, hcc, l1, hZf⟩ := unhide RD wr j (unhide hB) (unhide h80) (unhide hS) hlt
      subst e1
      subst e2
      subst hx
      have hkn : (j : Int) < (nO : Int) := by omega
      have h3 : ¬ (j : Int) < 0 := by omega
      have hc1 : (cc : Int) < (nP : Int) := by omega
      have hc2 : ¬ (cc : Int) < 0 := by omega
      obtain ⟨f1, f2, dl⟩ := hZf _ rfl
      have DL := hide dl
      have f3 : (wr.alloc (.cells #[.int .i64 (cc : Int), .bool y] 70)).drew.cell? ⟨wr.heap.size, 0, none⟩ = some (.int .i64 (cc : Int)) := by show (wr.alloc _).cell? _ = _; simp
      have f4 : (wr.alloc (.cells #[.int .i64 (cc : Int), .bool y] 70)).drew.cell? ⟨wr.heap.size, 1, none⟩ = some (.bool y) := by show (wr.alloc _).cell? _ = _; simp
      obtain ⟨Z, hZ⟩ : ∃ Z, Z = wr.alloc (.cells #[.int .i64 (cc : Int), .bool y] 70) := ⟨_, rfl⟩
      rw [← hZ] at f1 f2 f3 f4 DL
      have HZ := hide hZ
      clear hZf dl RD RF hZ hS
      go_upto_region 7 with fail
      rw [← unhide HZ]
      refine wp_region_last (n := 10) (S := fun W' => W'.cell? ⟨W.heap.size, 2, none⟩ = some (.slice (some ⟨bP, oP, none⟩) nP cP) ∧ W'.cell? ⟨bP, oP + cc, none⟩ = some (.int .i64 ((z : Nat) : Int)) ∧ W'.cell? ⟨wr.heap.size, 0, none⟩ = some (.int .i64 (cc : Int)) ∧ W'.cell? ⟨wr.heap.size, 1, none⟩ = some (.bool y)) (by kernel_rfl) ⟨f1, f2, f3, f4⟩ (fun hHeld => ?_)
      refine tkW 0 ?_; refine tkW 1 ?_; refine tkN 2 ?_; refine tkW 3 ?_; refine tkN 4 ?_; refine tkW 5 ?_; refine tkN 6 ?_; refine tkW 7 ?_; refine tkN 8 ?_
      refine wpAnyL_one (i := 9) (by kernel_rfl) rfl (fun KK hK => ?_)
      go_simp
      go_wp2_with fail
      refine (unhide DL).mono ?_
      rintro e w1 ⟨rfl, g1, g2, g3, g4, g5, g6, g7⟩
      have G5 := hide g5; have G6 := hide g6; have G7 := hide g7
      clear g5 g6 g7 DL
      go_wp2_with fail
      refine hK.out _ _ ⟨g1, g2, g3, g4⟩ (fun hHeld => ?_)
      clear hK KK
      refine wpAnyL_done (by kernel_rfl) ?_
      clear hHeld g1 g2 g3 g4 f1 f2 f3 f4
      go_wp2_with fail
      exact ⟨⟨j + 1, by go_num, by omega, unhide G5, unhide G6, unhide G7⟩, by simp [intOf]; omega⟩
    · have hjn : j = nO := by omega
      subst hjn
      have c0 := unhide C0 wr (unhide h80)
      have hS0 : Hid (∃ bs vK, Sk W.heap.size wr (A.heap.size + 1) (W.heap.size + 1) A.heap.size N bs vK (addL (keyO P O ++ (keyF nF).take 0))) := by
        have := unhide hS
        rw [unhide HN0] at this
        exact this
      clear RD hS
      go_wp2_with fail
      clear c0
      go_loopw [40] (fun v40 wr => ∃ (i : Nat), v40 = .int .i64 i ∧ i ≤ nF ∧ Hid (Below W.heap.size W wr) ∧ Hid (Bk wr W.heap.size 80 [.slice pF nF cF, .slice pU nU cU, .slice pP nP cP]) ∧ Hid (∃ bs vK, Sk W.heap.size wr (A.heap.size + 1) (W.heap.size + 1) A.heap.size N bs vK (addL (keyO P O ++ (keyF nF).take i)))) (fun v40 _ => nF - (intOf v40).toNat)
      case atStart => exact ⟨0, rfl, by omega, unhide hB, unhide h80, unhide hS0⟩
      case round =>
        obtain ⟨i, rfl, hi, hB2, h802, hS2⟩ := hrel
        by_cases hlt2 : i < nF
        · have DL := hide (unhide RF wr i (unhide hB2) (unhide h802) (unhide hS2) hlt2)
          have hin : (i : Int) < (nF : Int) := by omega
          clear RF
          go_wp2_with fail
          refine (unhide DL).mono ?_
          rintro e w1 ⟨rfl, g5, g6, g7⟩
          have G5 := hide g5; have G6 := hide g6; have G7 := hide g7
          clear g5 g6 g7 DL
          go_wp2_with fail
          exact ⟨⟨i + 1, by go_num, by omega, unhide G5, unhide G6, unhide G7⟩, by simp [intOf]; omega⟩
        · have hin : i = nF := by omega
          subst hin
          obtain ⟨bs, vK, hSk⟩ := unhide hS2
          rw [unhide HNE] at hSk
          have ck : wr.cell? ⟨W.heap.size + 1, 0, none⟩ = some vK := hSk.k.cell 0
          obtain ⟨p, c, evk, _, _⟩ := row_slice hSk.row
          have hrow := hSk.row
          rw [evk] at hrow
          have HL := hide (own_lies kO_ok rfl hrow)
          have HL2 : Hid (∀ b o, p = some ⟨b, o, none⟩ → W.heap.size ≤ b) := fun b o e => by
            have := (row_block hrow (g := b) (by rw [e]; rfl)).1
            omega
          rw [evk] at ck
          clear hSk hrow evk RF
          go_wp2_with fail
          go_ret
          exact ⟨p, c, rfl, unhide hB2, unhide HL, unhide HL2⟩
end
end Go.Proofs.YtbenciieenbmeaaGreatDoor
