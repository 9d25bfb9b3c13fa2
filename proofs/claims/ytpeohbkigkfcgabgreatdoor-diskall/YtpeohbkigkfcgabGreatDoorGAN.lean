import Derived.Test.YtpeohbkigkfcgabGreatDoorGAM
set_option linter.unusedVariables false
set_option linter.unusedSimpArgs false
set_option maxRecDepth 100000
set_option maxHeartbeats 16000000
namespace Go.Proofs.YtpeohbkigkfcgabGreatDoor
open Go Go.Shelf Go.ChangeShapes Go.WideShapes Go.ChangeAt Go.RowKit Go.Maps Go.Sort
theorem ren_same {A : Fs} {k : List UInt8} {x : Fl} {i : Nat} (hO : OrdF A) (hi : A[i]? = some (k, x)) : putF k x (delF k A) = A := by
 have h1 : delF k (delF k A) = delF k A := by unfold delF; rw [List.filter_filter]; simp
 have h2 : putF k x (delF k A) = putF k x A := by unfold putF; rw [h1]
 rw [h2, put_set x hO hi]
 obtain ⟨hl, he⟩ := List.getElem?_eq_some_iff.1 hi
 rw [<- he, List.set_getElem_self]
theorem RefIs.more {W : World} {r : Nat} {K : Dk} {V U U' : Nat -> Prop} {v : Value} (h : RefIs W r K V U v) (hu : ∀ q, U q -> U' q) (hs : ∀ q, U' q -> V q) (ho : ¬ U' r) : RefIs W r K V U' v :=
 ⟨h.c0, h.c1, h.c2, h.c3, h.fz, h.bk.mono hu (fun q hq => h.vl q (hs q hq)), hs, ho, h.vr, h.vl⟩
theorem RefIs.drew {W : World} {r : Nat} {K : Dk} {V U : Nat -> Prop} {v : Value} (h : RefIs W r K V U v) : RefIs W.drew r K V U v := h.far (fun _ _ => rfl) (Nat.le_refl _)
structure InHand (W : World) (B r : Nat) (t : ByteArray) (x : Fl) (V0 : Nat -> Prop) (p : Option Addr) (c : Nat) : Prop where
 m0 : W.cell? ⟨B, 0, none⟩ = some (.string t)
 m1 : W.cell? ⟨B, 1, none⟩ = some (.slice p x.bs.length c)
 m2 : W.cell? ⟨B, 2, none⟩ = some (.int .i64 (x.sy : Int))
 row : W.ownsRow 0 5 1 (.slice p x.bs.length c) x.bs.length (bcs x.bs)
 own : ∀ q, (Value.slice p x.bs.length c).ownBlock = some q -> V0 q
 lt : B < W.heap.size
 ne : B ≠ r
 nr : ¬ V0 r
theorem InHand.anew {W W' : World} {B r : Nat} {t : ByteArray} {x : Fl} {V0 : Nat -> Prop} {p : Option Addr} {c : Nat} (h : InHand W B r t x V0 p c) (hb : Below W.heap.size W W') (u : Value) : InHand (W'.setCell ⟨r, 1, none⟩ u) B r t x V0 p c := by
 have hB := Below.heap_setCell W' ⟨r, 1, none⟩ u B h.ne
 refine ⟨(World.cell?_of_block (a := ⟨B, 0, none⟩) hB).trans (keep1 hb h.lt h.m0), (World.cell?_of_block (a := ⟨B, 1, none⟩) hB).trans (keep1 hb h.lt h.m1), (World.cell?_of_block (a := ⟨B, 2, none⟩) hB).trans (keep1 hb h.lt h.m2), row_far (own_below h.row hb) (fun q hq => Below.heap_setCell W' ⟨r, 1, none⟩ u q (fun e => h.nr (by have e' : q = r := e; rw [<- e']; exact h.own q hq))), h.own, ?_, h.ne, h.nr⟩
 have := hb.size
 have := h.lt
 simpa using by omega
theorem InHand.drew {W : World} {B r : Nat} {t : ByteArray} {x : Fl} {V0 : Nat -> Prop} {p : Option Addr} {c : Nat} (h : InHand W B r t x V0 p c) : InHand W.drew B r t x V0 p c := ⟨h.m0, h.m1, h.m2, row_far h.row (fun _ _ => rfl), h.own, h.lt, h.ne, h.nr⟩
theorem rrename_ok {w : World} {r : Nat} {K : Dk} {V : Nat -> Prop} (h : RefOK w r K V) (hl : K.A.length <= 64) (hO : OrdF K.A) (hf : K.fuse <= 9223372036854775807) (hf0 : -9223372036854775808 <= K.fuse) (s t : ByteArray) (hs : s.size <= 9223372036854775806) (ht : t.size <= 9223372036854775806) :
  Calls Tryz.prog 102 #[.pointer (some ⟨r, 0, none⟩), .string s, .string t] w fun e w' => e = .returned (.int .i64 (chgK K (erR s t K) (renA s t K)).2) /\ ∃ V', RefOK w' r (chgK K (erR s t K) (renA s t K)).1 V' /\ Sep w w' V V' := by
 have HA := hide (rat_ok h (by omega) s)
 have HNM : Hid (∀ u : ByteArray, u.size <= 9223372036854775806 -> Calls Tryz.prog 200 #[.string u] w fun e w' => e = .returned (.bool (nameS u)) /\ w' = w) := fun u hu => rname_ok u hu w
 have HK := hide h
 obtain ⟨V0, v, h⟩ := h
 obtain ⟨pa, ca, rfl⟩ := h.bk.form
 have HP := hide (rpower_ok h hf hf0)
 have c1 := h.c1
 have c3 := h.c3
 obtain ⟨L, hL⟩ : ∃ L, L = K.A.length := ⟨_, rfl⟩
 rw [<- hL] at c1 hl h HP
 have HL := hide hL
 have HO := hide hO
 clear hf hf0 hO
 cases hd : K.down with
 | true =>
  rw [chg_down hd]
  rw [hd] at c3
  clear h hL hl c1
  go_enter Tryz.func102, Tryz.ntmps102
  go_wp2_with fail
  go_ret
  exact ⟨rfl, V, uh HK, Sep.refl _ _⟩
 | false =>
  rw [hd] at c3
  have HD := hide hd
  clear hd
  cases hn : nameS s with
  | false =>
   have hw : erR s t K = 32 := by unfold erR erF; rw [hn]; simp
   rw [hw, chg_er (uh HD) (by decide)]
   clear h hL hl c1 hw
   go_enter Tryz.func102, Tryz.ntmps102
   go_wp2_with (first | (go_at_call 200; refine (uh HNM _ (by assumption)).mono ?_; rintro e w1 ⟨rfl, hw⟩; rw [hw]; rw [hn]; clear hw w1))
   go_ret
   exact ⟨rfl, V, uh HK, Sep.refl _ _⟩
  | true =>
   cases hm : nameS t with
   | false =>
    have hw : erR s t K = 32 := by unfold erR; rw [if_pos hm]
    rw [hw, chg_er (uh HD) (by decide)]
    clear h hL hl c1 hw
    go_enter Tryz.func102, Tryz.ntmps102
    go_wp2_with (first | (go_at_call 200; refine (uh HNM _ (by assumption)).mono ?_; rintro e w1 ⟨rfl, hw⟩; rw [hw]; (first | rw [hn] | rw [hm]); clear hw w1))
    go_ret
    exact ⟨rfl, V, uh HK, Sep.refl _ _⟩
   | true =>
    have hw : erR s t K = erF s K := by unfold erR; rw [if_neg (by rw [hm]; simp)]
    rw [hw]
    clear hw
    cases hg : getF s.data.toList K.A with
    | none =>
     have hx := (idx_get (k := s.data.toList) (l := K.A) 0).1 hg
     rw [hx] at HA
     have hw : erF s K = 31 := by unfold erF; rw [if_neg (by rw [hn]; simp), if_neg (by rw [hg]; simp)]
     rw [hw, chg_er (uh HD) (by decide)]
     clear h hL hl c1 hw hg hx
     go_enter Tryz.func102, Tryz.ntmps102
     go_wp2_with (first | (go_at_call 200; refine (uh HNM _ (by assumption)).mono ?_; rintro e w1 ⟨rfl, hw⟩; rw [hw]; (first | rw [hn] | rw [hm]); clear hw w1) | (go_at_call 201; refine (uh HA).mono ?_; rintro e w1 ⟨rfl, hw⟩; rw [hw]; clear hw w1))
     go_ret
     exact ⟨rfl, V, uh HK, Sep.refl _ _⟩
    | some x =>
     obtain ⟨i, hi, hx⟩ := (idx_get (k := s.data.toList) (l := K.A) 0).2 x hg
     rw [Nat.zero_add] at hx
     rw [hx] at HA
     have hw : erF s K = 0 := by unfold erF; rw [if_neg (by rw [hn]; simp), if_pos (by rw [hg]; rfl)]
     rw [hw]
     have hiL : i < L := by rw [hL]; exact (List.getElem?_eq_some_iff.1 hi).1
     have i0 : (0 : Int) <= (i : Int) := by omega
     have i1 : (i : Int) < (L : Int) := by omega
     have j0 : ¬ ((i : Int) < 0) := by omega
     cases hp : (powK K).2 with
     | false =>
      rw [chg_no (uh HD) hp]
      rw [hp] at HP
      clear h hL hw hg hx hp hi hiL
      go_enter Tryz.func102, Tryz.ntmps102
      go_wp2_with (first | (go_at_call 200; refine (uh HNM _ (by assumption)).mono ?_; rintro e w1 ⟨rfl, hw⟩; rw [hw]; (first | rw [hn] | rw [hm]); clear hw w1) | (go_at_call 201; refine (uh HA).mono ?_; rintro e w1 ⟨rfl, hw⟩; rw [hw]; clear hw w1) | (go_at_call 202; refine (uh HP).mono ?_; rintro e w1 ⟨rfl, hw, hs1⟩; have HW := hide hw; have HS := hide hs1; clear hw hs1))
      go_ret
      exact ⟨rfl, V, ⟨_, _, uh HW⟩, uh HS⟩
     | true =>
      rw [chg_yes (uh HD) hp]
      rw [hp] at HP
      have eN : renA s t K = putF t.data.toList x (delF s.data.toList K.A) := by unfold renA; rw [hg]
      by_cases hst : s = t
      ·subst hst
       have eM : renA s s K = (powK K).1.A := by rw [eN, ren_same (uh HO) hi, pow_A]
       rw [eM]
       obtain ⟨K1, hK1⟩ : ∃ K1, K1 = (powK K).1 := ⟨_, rfl⟩
       rw [<- hK1] at HP ⊢
       clear h hL hw hg hx hp hi hiL eN eM hK1
       go_enter Tryz.func102, Tryz.ntmps102
       go_wp2_with (first | (go_at_call 200; refine (uh HNM _ (by assumption)).mono ?_; rintro e w1 ⟨rfl, hw⟩; rw [hw]; rw [hn]; clear hw w1) | (go_at_call 201; refine (uh HA).mono ?_; rintro e w1 ⟨rfl, hw⟩; rw [hw]; clear hw w1) | (go_at_call 202; refine (uh HP).mono ?_; rintro e w1 ⟨rfl, hw, hs1⟩; have HW := hide hw; have HS := hide hs1; clear hw hs1 c1 c3))
       go_ret
       exact ⟨rfl, V, ⟨_, _, uh HW⟩, uh HS⟩
      ·have hss : (s.toList == t.toList) = false := by
        rw [ByteArray.toList_eq, ByteArray.toList_eq, beq_eq_false_iff_ne]
        intro e
        exact hst (ByteArray.ext (Array.ext' e))
       rw [eN]
       obtain ⟨K1, hK1⟩ : ∃ K1, K1 = (powK K).1 := ⟨_, rfl⟩
       have hL1 : L = K1.A.length := by rw [hK1, pow_A, hL]
       have hA1 : K.A = K1.A := by rw [hK1, pow_A]
       rw [hA1] at hi HO ⊢
       rw [<- hK1] at HP ⊢
       have HL1 := hide hL1
       have HI := hide hi
       have HIL := hide hiL
       clear h hL hw hg hx hp hi hiL eN hK1 hL1 hA1 hst HL
       go_enter Tryz.func102, Tryz.ntmps102
       go_wp2_with (first | (go_at_call 200; refine (uh HNM _ (by assumption)).mono ?_; rintro e w1 ⟨rfl, hw⟩; rw [hw]; (first | rw [hn] | rw [hm]); clear hw w1) | (go_at_call 201; refine (uh HA).mono ?_; rintro e w1 ⟨rfl, hw⟩; rw [hw]; clear hw w1) | (go_at_call 202; refine (uh HP).mono ?_; rintro e w1 ⟨rfl, hw, hs1⟩; have HW := hide hw; have HS := hide hs1; obtain ⟨g, ca', pi, ci, ev, hgU, hgl, a0, a1, a2, af, ra, hraU⟩ := (uh HW).bk.at (uh HI); rw [<- uh HL1] at ev; injection ev with ev eL ev3; subst ev ev3; clear eL; have d1 := (uh HW).c1; have d2 := fun o => keep1 (bal (Below.refl w1.heap.size w1) o) (hw.vl r hw.vr) hw.c1; have HRA := hide ra; have HRU := hide hraU; clear hw hs1 c1 c3 hgU ra hraU af hgl))
       obtain ⟨w2, hw2⟩ : ∃ w2, w2 = w1.alloc (.cells #[.string t, .slice pi x.bs.length ci, .int .i64 (x.sy : Int)] 82) := ⟨_, rfl⟩
       rw [<- hw2]
       have hb12 : Below w1.heap.size w1 w2 := by rw [hw2]; exact bal (Below.refl _ _) _
       have hrl := (uh HW).vl r (uh HW).vr
       have HR2 : Hid (RefIs w2 r K1 V V0 (.slice (some ⟨g, 0, none⟩) L ca)) := (uh HW).far (fun q hq => hb12.block q ((uh HW).vl q hq)) hb12.size
       have HS2 : Hid (Sep w w2 V V) := (uh HS).trans (Sep.of_below V hb12)
       have HH2 : Hid (InHand w2 w1.heap.size r t x V0 pi ci) := ⟨by rw [hw2, World.cell?_alloc_mark]; rfl, by rw [hw2, World.cell?_alloc_mark]; rfl, by rw [hw2, World.cell?_alloc_mark]; rfl, own_below (uh HRA) hb12, uh HRU, by rw [hw2]; simp, by omega, (uh HW).out⟩
       clear hw2 hb12 hrl a0 a1 a2 d1 d2
       refine (rwithout_ok (uh HR2).bk (by have := uh HL1; omega) i (by omega)).mono ?_
       rintro e w3 ⟨p3, c3, rfl, U3, hb3, hu3, hbe3⟩
       have hz3 := (uh HR2).anew hb3 hu3 hbe3
       have HR3 := hide hz3.1
       have HS3 := hide ((uh HS2).trans hz3.2)
       have HH3 := hide ((uh HH2).anew hbe3 (Value.slice p3 (K1.A.eraseIdx i).length c3))
       have d3 := keep1 hbe3 ((uh HR2).vl r (uh HR2).vr) (uh HR2).c1
       have f3 := keepF hbe3 ((uh HR2).vl r (uh HR2).vr) ((uh HR2).fz 1)
       obtain ⟨A2, hA2⟩ : ∃ A2, A2 = K1.A.eraseIdx i := ⟨_, rfl⟩
       rw [<- hA2] at HR3 HH3 HS3 ⊢
       have HA2 := hide hA2
       have HU3 := hide hu3
       clear hb3 hu3 hbe3 hz3 hA2
       go_wp2_with fail
       clear d3 f3
       obtain ⟨w4, hw4⟩ : ∃ w4, w4 = w3.setCell ⟨r, 1, none⟩ (.slice p3 A2.length c3) := ⟨_, rfl⟩
       rw [<- hw4] at HR3 HH3 HS3 ⊢
       clear hw4
       have eA2 : Hid (A2 = delF s.data.toList K1.A) := (uh HA2).trans (erase_del (uh HO) (uh HI))
       have hl2 : Hid (A2.length <= 64) := by
        rw [uh eA2]
        refine Nat.le_trans (List.length_filter_le _ _) ?_
        rw [<- uh HL1]
        exact hl
       have HO2 : Hid (OrdF A2) := by rw [uh eA2]; exact ord_del (uh HO) _
       have HX := hide (rat_ok ⟨_, _, uh HR3⟩ (Nat.le_trans (uh hl2) (by omega)) t)
       cases hg2 : getF t.data.toList A2 with
       | none =>
        rw [(idx_get (k := t.data.toList) (l := A2) 0).1 hg2] at HX
        have HG2 := hide hg2
        clear hg2
        refine (uh HX).mono ?_
        rintro e w5 ⟨rfl, hw⟩
        rw [hw]
        clear hw w5
        go_wp2_with fail
        have HR9 : Hid (RefIs w4.drew r _ _ (fun q => U3 q \/ V0 q) _) := ((uh HR3).more (U' := fun q => U3 q \/ V0 q) (fun q hq => .inl hq) (fun q hq => hq.elim (fun h => .inr h) (fun h => .inl ((uh HW).sub q h))) (fun hq => hq.elim (uh HR3).out (uh HH3).nr)).drew
        have HT := hide (rput_ok (uh HR9).bk (by exact Nat.lt_of_le_of_lt (uh hl2) (by omega)) t x pi ci (uh HH3).drew.row (fun q hq => .inr ((uh HH3).own q hq)))
        have q1 := (uh HR3).c1
        have m0 := (uh HH3).m0
        have m1 := (uh HH3).m1
        have m2 := (uh HH3).m2
        have hne := (uh HH3).ne
        have hnf := hne.symm
        go_region_law (first | (go_simp; go_at_call 203; refine (uh HT).mono ?_; rintro e w9 ⟨p9, c9, rfl, U9, hb9, hu9, hbe9⟩; have HB9 := hide hb9; have HU9 := hide hu9; have HE9 := hide hbe9; have n0 := keep1 hbe9 (uh HH3).lt m0; have n1 := keep1 hbe9 (uh HH3).lt m1; have n2 := keep1 hbe9 (uh HH3).lt m2; have d9 := keep1 hbe9 ((uh HR9).vl r (uh HR9).vr) (uh HR9).c1; have f9 := keepF hbe9 ((uh HR9).vl r (uh HR9).vr) ((uh HR9).fz 1); clear hb9 hu9 hbe9))
        all_goals
         go_wp2_with fail
         go_ret
         have hz9 := (uh HR9).anew (uh HB9) (uh HU9) (uh HE9)
         have eF : putF t.data.toList x (delF s.data.toList K1.A) = insF (t.data.toList, x) A2 := by
          unfold putF; rw [<- uh eA2, del_none (uh HG2)]
         rw [eF]
         exact ⟨rfl, _, ⟨_, _, hz9.1⟩, (uh HS3).trans ((Sep.of_below _ (below_drewN (Below.refl _ _) 1)).trans hz9.2)⟩
       | some y =>
        obtain ⟨j, hj, hjx⟩ := (idx_get (k := t.data.toList) (l := A2) 0).2 y hg2
        rw [Nat.zero_add] at hjx
        rw [hjx] at HX
        have HJ := hide hj
        have hjl : j < A2.length := (List.getElem?_eq_some_iff.1 hj).1
        have hj64 : j < 64 := Nat.lt_of_lt_of_le hjl (uh hl2)
        have k0 : (0 : Int) <= (j : Int) := by omega
        clear hg2 hj hjx hjl
        refine (uh HX).mono ?_
        rintro e w5 ⟨rfl, hw⟩
        rw [hw]
        clear hw w5
        have q1 := (uh HR3).c1
        go_wp2_with fail
        clear q1
        refine (rwithout_ok (uh HR3).bk (by exact Nat.le_trans (uh hl2) (by omega)) j (by omega)).mono ?_
        rintro e w6 ⟨p6, c6, rfl, U6, hb6, hu6, hbe6⟩
        have hz6 := (uh HR3).anew hb6 hu6 hbe6
        have HR6 := hide hz6.1
        have HS6 := hide ((uh HS3).trans hz6.2)
        have HH6 := hide ((uh HH3).anew hbe6 (Value.slice p6 (A2.eraseIdx j).length c6))
        have d6 := keep1 hbe6 ((uh HR3).vl r (uh HR3).vr) (uh HR3).c1
        have f6 := keepF hbe6 ((uh HR3).vl r (uh HR3).vr) ((uh HR3).fz 1)
        obtain ⟨A3, hA3⟩ : ∃ A3, A3 = A2.eraseIdx j := ⟨_, rfl⟩
        rw [<- hA3] at HR6 HH6 HS6 ⊢
        have HA3 := hide hA3
        have HU6 := hide hu6
        clear hb6 hu6 hbe6 hz6 hA3
        go_wp2_with fail
        clear d6 f6
        obtain ⟨w7, hw7⟩ : ∃ w7, w7 = w6.setCell ⟨r, 1, none⟩ (.slice p6 A3.length c6) := ⟨_, rfl⟩
        rw [<- hw7] at HR6 HH6 HS6 ⊢
        clear hw7
        have eA3 : Hid (A3 = delF t.data.toList A2) := (uh HA3).trans (erase_del (uh HO2) (uh HJ))
        have hl3 : Hid (A3.length <= 64) := by
         rw [uh eA3]
         exact Nat.le_trans (List.length_filter_le _ _) (uh hl2)
        have HR9 : Hid (RefIs w7.drew r _ _ (fun q => U6 q \/ V0 q) _) := ((uh HR6).more (U' := fun q => U6 q \/ V0 q) (fun q hq => .inl hq) (fun q hq => hq.elim (fun h => .inr h) (fun h => .inl (.inl ((uh HW).sub q h)))) (fun hq => hq.elim (uh HR6).out (uh HH6).nr)).drew
        have HT := hide (rput_ok (uh HR9).bk (by exact Nat.lt_of_le_of_lt (uh hl3) (by omega)) t x pi ci (uh HH6).drew.row (fun q hq => .inr ((uh HH6).own q hq)))
        have q1 := (uh HR6).c1
        have m0 := (uh HH6).m0
        have m1 := (uh HH6).m1
        have m2 := (uh HH6).m2
        have hne := (uh HH6).ne
        have hnf := hne.symm
        go_region_law (first | (go_simp; go_at_call 203; refine (uh HT).mono ?_; rintro e w9 ⟨p9, c9, rfl, U9, hb9, hu9, hbe9⟩; have HB9 := hide hb9; have HU9 := hide hu9; have HE9 := hide hbe9; have n0 := keep1 hbe9 (uh HH6).lt m0; have n1 := keep1 hbe9 (uh HH6).lt m1; have n2 := keep1 hbe9 (uh HH6).lt m2; have d9 := keep1 hbe9 ((uh HR9).vl r (uh HR9).vr) (uh HR9).c1; have f9 := keepF hbe9 ((uh HR9).vl r (uh HR9).vr) ((uh HR9).fz 1); clear hb9 hu9 hbe9))
        all_goals
         go_wp2_with fail
         go_ret
         have hz9 := (uh HR9).anew (uh HB9) (uh HU9) (uh HE9)
         have eF : putF t.data.toList x (delF s.data.toList K1.A) = insF (t.data.toList, x) A3 := by
          unfold putF; rw [<- uh eA2, <- uh eA3]
         rw [eF]
         exact ⟨rfl, _, ⟨_, _, hz9.1⟩, (uh HS6).trans ((Sep.of_below _ (below_drewN (Below.refl _ _) 1)).trans hz9.2)⟩
theorem info9s : (Tryz.prog.info? 9).map (fun i => (i.zero, i.size, i.bytes)) = some (some (.string ⟨#[]⟩), 1, 16) := by kernel_rfl
theorem one1s (k : List UInt8) : ∀ u ∈ [encStr k], u.oneCell' = true := by
 intro u hu
 simp only [List.mem_cons, List.not_mem_nil, or_false] at hu
 rw [hu]
 rfl
theorem wpList_append_str {w : World} {ops : Array Oper} {rest : List Oper} {o : Oper} {a : Act} {Q : Exit -> Act -> World -> Prop} (hgd : o.guard = none) (s x : Operand)
  (ho : o.op = .call { callee := .builtin .append, args := #[s, x], argTypes := #[77, 77] })
  (base : Nat) (hb : base <= w.heap.size) (v : Value) (n : Nat) (xs : List Value) (hs : a.eval s = v) (hown : w.ownsRow base 9 1 v n xs) (hn : n <= 100) (B c0 : Nat) (hx : a.eval x = .slice (some ⟨B, 0, none⟩) 1 c0) (k : List UInt8)
  (n0 : w.cell? ⟨B, 0, none⟩ = some (encStr k))
  (h : ∀ v' w', w'.ownsRow base 9 1 v' (n + 1) (xs ++ [encStr k]) -> w.grownBy w' v.ownBlock -> wpList Tryz.prog ops Q rest (a.put o.dst v') w') :
  wpList Tryz.prog ops Q (o :: rest) a w := by
 obtain ⟨i0, hi, hz, hz1, hz2⟩ := info_parts info9s
 refine wpList_append_own_at _ hgd s x 77 ho base 9 i0 _ 1 16 Tryz.underlying77 hi hz hz1 hz2 rfl (by decide) v n xs hs hown ⟨B, 0, none⟩ 1 c0 [encStr k] hx rfl (fun j u hj => ?_) (one1s _) (by unfold maxLen; omega) (by omega) hb (fun v' w' h4 h5 _ h6 => h v' w' h4 h5)
 rw [Addr.add_mid, Nat.zero_add]
 match j, hj with
 | 0, hj => exact n0.trans hj
theorem row_formS {W : World} {B n : Nat} {v : Value} {xs : List Value} (h : W.ownsRow B 9 1 v n xs) : ∃ p c, v = .slice p n c := by
 rcases h.2 with ⟨e8, h8⟩ | ⟨g, cap, cur, rfl, _⟩
 ·subst h8
  exact ⟨_, _, e8⟩
 ·exact ⟨_, _, rfl⟩
theorem rlist_ok {w : World} {r : Nat} {K : Dk} {V : Nat -> Prop} (h : RefOK w r K V) (hl : K.A.length <= 64) (hdn : K.down = false) :
  Calls Tryz.prog 115 #[.pointer (some ⟨r, 0, none⟩)] w fun e w' => ∃ v, e = .returned (.tuple #[v, .int .i64 0]) /\ w'.ownsRow w.heap.size 9 1 v K.A.length ((K.A.map (·.1)).map encStr) /\ Below w.heap.size w w' := by
 obtain ⟨V0, v, h⟩ := h
 obtain ⟨pa, ca, rfl⟩ := h.bk.form
 have hrl := h.vl r h.vr
 have c1 := h.c1
 have c3 := h.c3
 rw [hdn] at c3
 obtain ⟨l, hld⟩ : ∃ l, l = K.A := ⟨_, rfl⟩
 obtain ⟨L, hL⟩ : ∃ L, L = l.length := ⟨_, rfl⟩
 have HB := hide h.bk
 rw [<- hld] at c1 hl HB ⊢
 rw [<- hL] at c1 hl HB ⊢
 have HL := hide hL
 have HC : Hid (∀ wz, Below w.heap.size w wz -> wz.cell? ⟨r, 1, none⟩ = some (.slice pa L ca)) := fun wz hb => keep1 hb hrl c1
 clear h hL hld hrl hdn
 go_enter Tryz.func115, Tryz.ntmps115
 go_wp2_with fail
 clear c1 c3
 go_loopw [4, 5] (fun vo ui wr => ∃ i : Nat, i <= L /\ ui = .int .i64 (i : Int) /\ wr.ownsRow w.heap.size 9 1 vo i (((l.take i).map (·.1)).map encStr) /\ Below w.heap.size w wr) (fun _ u _ => L - (intOf u).toNat)
 case atStart => exact ⟨0, Nat.zero_le _, rfl, by rw [List.take_zero]; exact World.ownsRow_nil _ _ _ _, Below.refl _ _⟩
 case round =>
  obtain ⟨i, hi, rfl, ho, hb⟩ := hrel
  obtain ⟨po, co, rfl⟩ := row_formS ho
  have d1 := uh HC wr hb
  have HO := hide ho
  have HBE := hide hb
  by_cases hlt : i < L
  ·have hkx : ∃ k x, l[i]? = some (k, x) := by
    have : i < l.length := by rw [<- uh HL]; exact hlt
    exact ⟨_, _, List.getElem?_eq_getElem this⟩
   obtain ⟨ki, xi, hkx⟩ := hkx
   have htk : ((l.take (i + 1)).map (·.1)).map encStr = ((l.take i).map (·.1)).map encStr ++ [encStr ki] := by rw [List.take_add_one, hkx]; simp
   obtain ⟨g, ca', pi, ci, ev, hgU, hgl, a0, a1, a2, _, ra, hraU⟩ := (uh HB).at hkx
   rw [<- uh HL] at ev
   injection ev with ev eL ev3
   subst ev ev3
   clear eL
   have e0 := keep1 hb hgl a0
   have i0 : (0 : Int) <= (i : Int) := by omega
   have i1 : (i : Int) < (L : Int) := by omega
   have HTK := hide htk
   clear hkx htk a0 a1 a2 ra hraU hgl hgU ho hb
   go_wp2_with (first | (at_builtin; refine wpList_append_str rfl _ _ rfl w.heap.size (by have := (uh HBE).size; simp; omega) (.slice po i co) i _ rfl ((uh HO).alloc _) (by omega) wr.heap.size 1 rfl ki (by rw [World.cell?_alloc_mark]; rfl) ?_; intro v5 w5 h5 g5; have H5 := hide h5; have HB5 := hide (Below.grown ((uh HBE).trans ((bal (Below.refl _ _) _).mono (uh HBE).size)) g5 (by have := (uh HBE).size; simp; omega) (fun j hj => ((uh HO).lt j hj).1)); clear h5 g5))
   exact ⟨⟨i + 1, by omega, by go_num, by rw [uh HTK]; exact uh H5, uh HB5⟩, by simp [intOf]; omega⟩
  ·have j1 : ¬ (i : Int) < (L : Int) := by omega
   have hd : l.take i = l := List.take_of_length_le (by rw [<- uh HL]; omega)
   have hiL : i = L := by omega
   subst hiL
   rw [hd, List.map_map] at ho
   have HO2 := hide ho
   clear hd ho hb
   go_wp2_with fail
   go_ret2
   exact ⟨_, rfl, uh HO2, uh HBE⟩
theorem rleft_ok {w : World} (s : Value) (hs1 : ∃ b, s = .string b) (p : Option Addr) (c : Nat) (x : Fl) (hsy : x.sy <= x.bs.length) (hxl : x.bs.length <= 1048576) (j : Nat) (hj : j <= 1000) (pk : Option Addr) (ck : Nat) (ks : List Int) (hk : KsAt w (.slice pk ks.length ck) ks) (hkl : ks.length <= 4000000000000000000) :
  Calls Tryz.prog 212 #[.agg #[s, .slice p x.bs.length c, .int .i64 (x.sy : Int)], .int .i64 (j : Int), .slice pk ks.length ck] w fun e w' => e = .returned (.int .i64 (leftC ks j x : Int)) /\ Below w.heap.size w w' := by
 obtain ⟨sb, rfl⟩ := hs1
 obtain ⟨w4, hw4⟩ : ∃ w4, w4 = w.alloc (.cells #[.string sb, .slice p x.bs.length c, .int .i64 (x.sy : Int)] 82) := ⟨_, rfl⟩
 have b4 : Below w.heap.size w w4 := by rw [hw4]; exact bal (Below.refl _ _) _
 have k1 : w4.cell? ⟨w.heap.size, 1, none⟩ = some (.slice p x.bs.length c) := by rw [hw4, World.cell?_alloc_mark]; rfl
 have k2 : w4.cell? ⟨w.heap.size, 2, none⟩ = some (.int .i64 (x.sy : Int)) := by rw [hw4, World.cell?_alloc_mark]; rfl
 have H4 := hide hw4
 have B4 := hide b4
 obtain ⟨l, hl⟩ : ∃ l, l = leftC ks j x := ⟨_, rfl⟩
 rw [<- hl]
 have HLL := hide hl
 have hKr := hide hk
 clear hw4 hk
 obtain ⟨X, hX⟩ : ∃ X, X = x.bs.length := ⟨_, rfl⟩
 obtain ⟨Y, hY⟩ : ∃ Y, Y = x.sy := ⟨_, rfl⟩
 rw [<- hX] at k1 hsy hxl ⊢
 rw [<- hY] at k2 hsy ⊢
 rw [<- hX, <- hY] at H4
 by_cases hke : ks = []
 ·have hlen0 : ks.length = 0 := by rw [hke]; rfl
  have hl2 : l = Y := by rw [uh HLL, hY]; unfold leftC; rw [if_pos hke]
  rw [hl2, hlen0]
  clear hl hl2 hX hY hlen0 hke b4
  go_enter Tryz.func212, Tryz.ntmps212
  go_wp2_with fail
  go_ret
  rw [<- uh H4]
  exact ⟨rfl, uh B4⟩
 ·obtain ⟨kn, hkn⟩ : ∃ kn, kn = ks.length := ⟨_, rfl⟩
  have hkp : 0 < kn := by
   rcases Nat.eq_zero_or_pos kn with h0 | h0
   ·exact absurd (List.eq_nil_of_length_eq_zero (by rw [<- hkn]; exact h0)) hke
   ·exact h0
  obtain ⟨bk, off, hpk, hcell⟩ : ∃ bk off, pk = some ⟨bk, off, none⟩ /\ ∀ i k', ks[i]? = some k' -> w.cell? ⟨bk, off + i, none⟩ = some (.int .i64 k') := by
   rcases uh hKr with ⟨_, h1⟩ | ⟨bk, off, ck', h1, h2⟩
   ·exact absurd h1 hke
   ·injection h1 with h1 _ _
    exact ⟨bk, off, h1, h2⟩
  subst hpk
  have hmod : j % kn < kn := Nat.mod_lt _ hkp
  obtain ⟨kk, hkk⟩ : ∃ kk, ks[j % kn]? = some kk := ⟨_, List.getElem?_eq_getElem (by rw [<- hkn]; exact hmod)⟩
  have hc4 : w4.cell? ⟨bk, off + j % kn, none⟩ = some (.int .i64 kk) := by
   have h1 := hcell _ _ hkk
   exact keep1 b4 (World.block_lt_of_cell? w _ h1) h1
  obtain ⟨r, hr⟩ : ∃ r, r = j % kn := ⟨_, rfl⟩
  have htm : (j : Int).tmod (kn : Int) = (r : Int) := by
   rw [hr, Int.tmod_eq_emod_of_nonneg (by omega)]
   exact (Int.natCast_emod j kn).symm
  rw [<- hr] at hc4 hmod hkk
  have HLV : Hid ((l : Int) = (Y : Int) + min (max kk 0) ((X : Int) - (Y : Int))) := by
   have h1 := uh HLL
   unfold leftC at h1
   rw [if_neg hke, <- hkn, <- hr, List.getD_eq_getElem?_getD, hkk, <- hX, <- hY] at h1
   simp only [Option.getD_some] at h1
   show (l : Int) = _
   rw [h1]
   omega
  have n1 : ¬ (kn : Int) = 0 := by omega
  have n2 : (0 : Int) < (kn : Int) := by omega
  have n3 : (0 : Int) <= (r : Int) := by omega
  have n4 : (r : Int) < (kn : Int) := by omega
  have n5 : (kn == 0) = false := by simp; omega
  have hc5 := hc4
  rw [uh H4] at hc5
  rw [<- hkn] at hkl ⊢
  clear hcell hke hkk hr hkn hl hX hY b4 hKr HLL hkp hc4 k1 k2
  have s0 : -9223372036854775808 <= (X : Int) - (Y : Int) := by omega
  have s1 : (X : Int) - (Y : Int) <= 9223372036854775807 := by omega
  by_cases g1 : kk < 0
  ·have g3 : ¬ ((X : Int) - (Y : Int) < 0) := by omega
   have hlv : (l : Int) = (Y : Int) := by have := uh HLV; omega
   rw [hlv]
   clear hlv
   go_enter Tryz.func212, Tryz.ntmps212
   go_wp2_with fail
   go_ret
   rw [<- uh H4]
   exact ⟨by go_num, uh B4⟩
  ·by_cases g3 : (X : Int) - (Y : Int) < kk
   ·have hlv : (l : Int) = (Y : Int) + ((X : Int) - (Y : Int)) := by have := uh HLV; omega
    rw [hlv]
    clear hlv
    go_enter Tryz.func212, Tryz.ntmps212
    go_wp2_with fail
    go_ret
    rw [<- uh H4]
    exact ⟨by go_num, uh B4⟩
   ·have hlv : (l : Int) = (Y : Int) + kk := by have := uh HLV; omega
    rw [hlv]
    clear hlv
    go_enter Tryz.func212, Tryz.ntmps212
    go_wp2_with fail
    go_ret
    rw [<- uh H4]
    exact ⟨by go_num, uh B4⟩
theorem bytes_mid {W : World} {g c A N c' : Nat} {bs : List UInt8} (h : W.ownsRow 0 5 1 (.slice (some ⟨g, 0, none⟩) bs.length c) bs.length (bcs bs)) (hA : A + N <= bs.length) : BytesAt W (.slice (some ⟨g, A, none⟩) N c') ((bs.drop A).take N) := by
 have hl : ((bs.drop A).take N).length = N := by rw [List.length_take, List.length_drop]; omega
 refine .inr ⟨g, A, c', by rw [hl], fun j u hj => ?_⟩
 have h1 : (bcs bs)[A + j]? = some u := by
  unfold bcs at hj ⊢
  rw [List.getElem?_map] at hj ⊢
  rw [List.getElem?_take] at hj
  split at hj
  ·rw [List.getElem?_drop] at hj
   exact hj
  ·cases hj
 have := h.cells (g := g) rfl (A + j) u h1
 rwa [Addr.add_mid, Nat.zero_add] at this
theorem fresh_fin {w w5 : World} {b2 : List UInt8} {N : Nat} {p5 : Option Addr} {c5 : Nat} (hle : b2.length = N) (r1 : w5.ownsRow 0 5 1 (.slice p5 b2.length c5) b2.length (bcs b2)) (hgr : ((Value.slice p5 b2.length c5).ownBlock = (Value.slice (some ⟨w.heap.size, 0, none⟩) 0 0).ownBlock /\ (w.alloc (.cells #[] 5)).grownBy w5 (Value.slice (some ⟨w.heap.size, 0, none⟩) 0 0).ownBlock) \/ ((Value.slice p5 b2.length c5).ownBlock = some (w.alloc (.cells #[] 5)).heap.size /\ (w.alloc (.cells #[] 5)).grownBy w5 none)) : w5.ownsRow w.heap.size 5 1 (.slice p5 N c5) N (bcs b2) /\ Below w.heap.size w w5 := by
 rw [hle] at r1 hgr
 have hg : Below w.heap.size (w.alloc (.cells #[] 5)) w5 := by
  rcases hgr with ⟨_, h2⟩ | ⟨_, h2⟩
  ·exact ⟨h2.os, h2.tape, h2.output, h2.size, fun k hk => h2.block k (by simp; omega) (by simp [Value.ownBlock]; omega)⟩
  ·exact ⟨h2.os, h2.tape, h2.output, h2.size, fun k hk => h2.block k (by simp; omega) (by simp)⟩
 refine ⟨row_up r1 (fun q hq => ?_), (bal (Below.refl w.heap.size w) _).trans hg⟩
 rcases hgr with ⟨h1, _⟩ | ⟨h1, _⟩
 ·rw [h1] at hq
  simp only [Value.ownBlock, Option.some.injEq] at hq
  omega
 ·rw [h1] at hq
  simp only [Option.some.injEq, World.size_alloc] at hq
  omega
set_option linter.unusedSimpArgs false in
theorem rread_in {w : World} {r : Nat} {K : Dk} {V : Nat -> Prop} (h : RefOK w r K V) (hl : K.A.length <= 64) (hdn : K.down = false) (s : ByteArray) (hs : s.size <= 9223372036854775806) (he : erF s K = 0) {x : Fl} (hx : getF s.data.toList K.A = some x) (hxl : x.bs.length <= 1048576) (A N : Nat) (hAN : A + N <= x.bs.length) :
  Calls Tryz.prog 110 #[.pointer (some ⟨r, 0, none⟩), .string s, .int .i64 (A : Int), .int .i64 (N : Int)] w fun e w' => (∃ p c, e = .returned (.tuple #[.slice p N c, .int .i64 0]) /\ w'.ownsRow w.heap.size 5 1 (.slice p N c) N (bcs ((x.bs.drop A).take N))) /\ Below w.heap.size w w' := by
 have HA := hide (rthere_ok h (by omega) s hs)
 obtain ⟨V0, v, h⟩ := h
 obtain ⟨pa, ca, rfl⟩ := h.bk.form
 have c1 := h.c1
 have c3 := h.c3
 rw [hdn] at c3
 obtain ⟨L, hL⟩ : ∃ L, L = K.A.length := ⟨_, rfl⟩
 rw [<- hL] at c1 hl h
 obtain ⟨i, x', hi, hg, hT⟩ := there_ok he
 rw [hx] at hg
 obtain rfl := Option.some.inj hg
 rw [hT] at HA
 have hiL : i < L := by rw [hL]; exact (List.getElem?_eq_some_iff.1 hi).1
 obtain ⟨g, ca', pi, ci, ev, hgU, hgl, a0, a1, a2, _, ra, hraU⟩ := h.bk.at hi
 rw [<- hL] at ev
 injection ev with ev eL ev3
 subst ev ev3
 clear eL
 have i0 : (0 : Int) <= (i : Int) := by omega
 have i1 : (i : Int) < (L : Int) := by omega
 have hcap : x.bs.length <= ci := by
  rcases ra.2 with ⟨h1, h2⟩ | ⟨_, _, _, h1, _, _, h3, _⟩
  ·omega
  ·injection h1 with _ _ h1c
   omega
 have hform : pi = none /\ x.bs = [] /\ ci = 0 \/ ∃ b, pi = some ⟨b, 0, none⟩ := by
  rcases ra.2 with ⟨h1, h2⟩ | ⟨b, _, _, h1, _⟩
  ·injection h1 with h1 _ h1c
   exact .inl ⟨h1, List.eq_nil_of_length_eq_zero h2, h1c⟩
  ·injection h1 with h1 _ _
   exact .inr ⟨b, h1⟩
 have hlen : ((x.bs.drop A).take N).length = N := by rw [List.length_take, List.length_drop]; omega
 have HRA := hide ra
 have HLE := hide hlen
 obtain ⟨X, hX⟩ : ∃ X, X = x.bs.length := ⟨_, rfl⟩
 rw [<- hX] at a1 hxl hAN hcap
 have HX := hide hX
 clear h hL he hT hg hi hiL a0 a2 ra hraU hgl hgU hdn hx hlen hX
 have j1 : ¬ ((A : Int) < 0) := by omega
 have j2 : ¬ ((N : Int) < 0) := by omega
 have j3 : ¬ ((X : Int) < (A : Int)) := by omega
 have j4 : ¬ ((X : Int) - (A : Int) < (N : Int)) := by omega
 have s0 : -9223372036854775808 <= (X : Int) - (A : Int) := by omega
 have s1 : (X : Int) - (A : Int) <= 9223372036854775807 := by omega
 have s2 : (A : Int) + (N : Int) <= 9223372036854775807 := by omega
 have k1 : (0 : Int) <= (A : Int) := by omega
 have k2 : (A : Int) <= (A : Int) + (N : Int) := by omega
 have k3 : (A : Int) + (N : Int) <= (ci : Int) := by omega
 rcases hform with ⟨rfl, hbs, rfl⟩ | ⟨b, rfl⟩
 ·have hX0 : X = 0 := by rw [uh HX, hbs]; rfl
  obtain rfl : A = 0 := by omega
  obtain rfl : N = 0 := by omega
  subst hX0
  have hb0 : (x.bs.drop 0).take 0 = [] := by simp
  rw [hb0]
  clear hb0 hbs HRA HLE HX
  go_enter Tryz.func110, Tryz.ntmps110
  go_wp2_with (first | (go_at_call 204; refine (uh HA).mono ?_; rintro e w1 ⟨rfl, hw⟩; rw [hw]; clear hw w1) | (at_builtin; refine wpList_append_b rfl _ _ rfl (.slice (some ⟨w.heap.size, 0, none⟩) 0 0) [] rfl (row_none w) (.slice none 0 0) [] (by first | rfl | (simp [Act.eval]; done)) (.inl ⟨rfl, rfl⟩) (by simp) [] rfl ?_; intro p5 c5 w5 r1 r2 hg; have R1 := hide (fresh_fin (N := 0) rfl r1 hg); clear r1 r2 hg))
  go_ret2
  exact ⟨⟨p5, c5, rfl, (uh R1).1⟩, (uh R1).2⟩
 ·have HLB : Hid (([] : List UInt8).length + ((x.bs.drop A).take N).length <= 140737488351232) := by
   show _ <= _
   rw [uh HLE]
   simp
   omega
  have HBA : Hid (∀ c', BytesAt (w.alloc (.cells #[] 5)) (.slice (some ⟨b, A, none⟩) N c') ((x.bs.drop A).take N)) := fun c' => (bytes_mid (uh HRA) (by rw [<- uh HX]; exact hAN)).below (bal (Below.refl w.heap.size w) _)
  have HBZ : Hid (∀ c', ci = A -> BytesAt (w.alloc (.cells #[] 5)) (.slice (some ⟨b, 0, none⟩) N c') ((x.bs.drop A).take N)) := fun c' e => by
   have hN : N = 0 := by omega
   rw [hN, List.take_zero]
   exact .inr ⟨b, 0, c', rfl, fun j u hj => by simp [bcs] at hj⟩
  obtain ⟨b2, hb2⟩ : ∃ b2, b2 = (x.bs.drop A).take N := ⟨_, rfl⟩
  rw [<- hb2] at HBA HBZ HLB HLE ⊢
  clear hb2
  by_cases hcA : ci = A
  ·go_enter Tryz.func110, Tryz.ntmps110
   go_wp2_with (first | (go_at_call 204; refine (uh HA).mono ?_; rintro e w1 ⟨rfl, hw⟩; rw [hw]; clear hw w1) | (at_builtin; refine wpList_append_b rfl _ _ rfl (.slice (some ⟨w.heap.size, 0, none⟩) 0 0) [] rfl (row_none w) (.slice (some ⟨b, 0, none⟩) N (ci - A)) b2 (by first | rfl | (simp [Act.eval, hcA]; done)) (uh HBZ _ hcA) (uh HLB) b2 rfl ?_; intro p5 c5 w5 r1 r2 hg; have R1 := hide (fresh_fin (uh HLE) r1 hg); clear r1 r2 hg))
   go_ret2
   rw [uh HLE]
   exact ⟨⟨p5, c5, rfl, (uh R1).1⟩, (uh R1).2⟩
  ·go_enter Tryz.func110, Tryz.ntmps110
   go_wp2_with (first | (go_at_call 204; refine (uh HA).mono ?_; rintro e w1 ⟨rfl, hw⟩; rw [hw]; clear hw w1) | (at_builtin; refine wpList_append_b rfl _ _ rfl (.slice (some ⟨w.heap.size, 0, none⟩) 0 0) [] rfl (row_none w) (.slice (some ⟨b, A, none⟩) N (ci - A)) b2 (by first | rfl | (simp [Act.eval, hcA]; done)) (uh HBA _) (uh HLB) b2 rfl ?_; intro p5 c5 w5 r1 r2 hg; have R1 := hide (fresh_fin (uh HLE) r1 hg); clear r1 r2 hg))
   go_ret2
   rw [uh HLE]
   exact ⟨⟨p5, c5, rfl, (uh R1).1⟩, (uh R1).2⟩
theorem rread_down {w : World} {r : Nat} {K : Dk} {V : Nat -> Prop} (h : RefOK w r K V) (hdn : K.down = true) (s : ByteArray) (a n : Int) :
  Calls Tryz.prog 110 #[.pointer (some ⟨r, 0, none⟩), .string s, .int .i64 a, .int .i64 n] w fun e w' => e = .returned (.tuple #[.slice none 0 0, .int .i64 34]) /\ w' = w := by
 obtain ⟨V0, v, h⟩ := h
 have c3 := h.c3
 rw [hdn] at c3
 clear h hdn
 go_enter Tryz.func110, Tryz.ntmps110
 go_wp2_with fail
 go_ret2
 exact ⟨rfl, rfl⟩
theorem rread_er {w : World} {r : Nat} {K : Dk} {V : Nat -> Prop} (h : RefOK w r K V) (hl : K.A.length <= 64) (hdn : K.down = false) (s : ByteArray) (hs : s.size <= 9223372036854775806) (he : erF s K ≠ 0) (a n : Int) :
  Calls Tryz.prog 110 #[.pointer (some ⟨r, 0, none⟩), .string s, .int .i64 a, .int .i64 n] w fun e w' => e = .returned (.tuple #[.slice none 0 0, .int .i64 (erF s K)]) /\ w' = w := by
 have HA := hide (rthere_ok h (by omega) s hs)
 rw [there_er he] at HA
 obtain ⟨V0, v, h⟩ := h
 have c3 := h.c3
 rw [hdn] at c3
 obtain ⟨er, her⟩ : ∃ er, er = erF s K := ⟨_, rfl⟩
 rw [<- her] at HA he ⊢
 clear h hdn hl her
 go_enter Tryz.func110, Tryz.ntmps110
 go_wp2_with (first | (go_at_call 204; refine (uh HA).mono ?_; rintro e w1 ⟨rfl, hw⟩; rw [hw]; clear hw w1))
 go_ret2
 exact ⟨rfl, rfl⟩
theorem rread_bad {w : World} {r : Nat} {K : Dk} {V : Nat -> Prop} (h : RefOK w r K V) (hl : K.A.length <= 64) (hdn : K.down = false) (s : ByteArray) (hs : s.size <= 9223372036854775806) (he : erF s K = 0) {x : Fl} (hx : getF s.data.toList K.A = some x) (hxl : x.bs.length <= 1048576) (a n : Int) (hbad : a < 0 \/ n < 0 \/ (x.bs.length : Int) < a \/ (x.bs.length : Int) - a < n) :
  Calls Tryz.prog 110 #[.pointer (some ⟨r, 0, none⟩), .string s, .int .i64 a, .int .i64 n] w fun e w' => e = .returned (.tuple #[.slice none 0 0, .int .i64 1]) /\ w' = w := by
 have HA := hide (rthere_ok h (by omega) s hs)
 obtain ⟨V0, v, h⟩ := h
 obtain ⟨pa, ca, rfl⟩ := h.bk.form
 have c1 := h.c1
 have c3 := h.c3
 rw [hdn] at c3
 obtain ⟨L, hL⟩ : ∃ L, L = K.A.length := ⟨_, rfl⟩
 rw [<- hL] at c1 hl h
 obtain ⟨i, x', hi, hg, hT⟩ := there_ok he
 rw [hx] at hg
 obtain rfl := Option.some.inj hg
 rw [hT] at HA
 have hiL : i < L := by rw [hL]; exact (List.getElem?_eq_some_iff.1 hi).1
 obtain ⟨g, ca', pi, ci, ev, hgU, hgl, a0, a1, a2, _, ra, hraU⟩ := h.bk.at hi
 rw [<- hL] at ev
 injection ev with ev eL ev3
 subst ev ev3
 clear eL
 have i0 : (0 : Int) <= (i : Int) := by omega
 have i1 : (i : Int) < (L : Int) := by omega
 obtain ⟨X, hX⟩ : ∃ X, X = x.bs.length := ⟨_, rfl⟩
 rw [<- hX] at a1 hxl hbad
 clear h hL he hT hg hi hiL a0 a2 ra hraU hgl hgU hdn hx hX
 by_cases g1 : a < 0
 ·clear hbad
  go_enter Tryz.func110, Tryz.ntmps110
  go_wp2_with (first | (go_at_call 204; refine (uh HA).mono ?_; rintro e w1 ⟨rfl, hw⟩; rw [hw]; clear hw w1))
  go_ret2
  exact ⟨rfl, rfl⟩
 ·by_cases g2 : n < 0
  ·clear hbad
   go_enter Tryz.func110, Tryz.ntmps110
   go_wp2_with (first | (go_at_call 204; refine (uh HA).mono ?_; rintro e w1 ⟨rfl, hw⟩; rw [hw]; clear hw w1))
   go_ret2
   exact ⟨rfl, rfl⟩
  ·by_cases g3 : (X : Int) < a
   ·clear hbad
    go_enter Tryz.func110, Tryz.ntmps110
    go_wp2_with (first | (go_at_call 204; refine (uh HA).mono ?_; rintro e w1 ⟨rfl, hw⟩; rw [hw]; clear hw w1))
    go_ret2
    exact ⟨rfl, rfl⟩
   ·have g4 : (X : Int) - a < n := by omega
    have s0 : -9223372036854775808 <= (X : Int) - a := by omega
    have s1 : (X : Int) - a <= 9223372036854775807 := by omega
    clear hbad
    go_enter Tryz.func110, Tryz.ntmps110
    go_wp2_with (first | (go_at_call 204; refine (uh HA).mono ?_; rintro e w1 ⟨rfl, hw⟩; rw [hw]; clear hw w1))
    go_ret2
    exact ⟨rfl, rfl⟩
section
variable {P : Program} {ops : Array Oper} {Q : Exit -> Act -> World -> Prop} {md : Region.Mode} {S : World -> Prop} {n : Nat}
def wpAnyL (P : Program) (md : Region.Mode) (ops : Array Oper) (Q : Exit -> Act -> World -> Prop) (S : World -> Prop) (n : Nat) : Nat -> Array Bool -> Act -> World -> Prop
 | 0, listed, a, w => Region.ready md ops listed = [] /\ Q .normal a w
 | fuel + 1, listed, a, w =>
  (Region.ready md ops listed = [] -> Q .normal a w) /\
  ∀ i ∈ Region.ready md ops listed, wpOp P ops Q i (fun a' w' => ((listed.setIfInBounds i true).getD n false = false -> S w') /\ wpAnyL P md ops Q S n fuel (listed.setIfInBounds i true) a' w') a w
theorem any_of_last : ∀ (fuel : Nat) (listed : Array Bool) (a : Act) (w : World), wpAnyL P md ops Q S n fuel listed a w -> wpAny P md ops Q fuel listed a w
 | 0, _, _, _, h => h
 | fuel + 1, _, _, _, h => ⟨h.1, fun i hi => wpOp_mono (fun a' w' h' => any_of_last fuel _ a' w' h'.2) (h.2 i hi)⟩
def waitsFor (md : Region.Mode) (ops : Array Oper) (n i : Nat) : Bool := ((ops[n]?).map (·.after.any fun e => Region.binds md e && e.on == i)).getD false
theorem not_ready {listed : Array Bool} {i : Nat} (hw : waitsFor md ops n i = true) (hu : listed.getD i true = false) : n ∉ Region.ready md ops listed := fun hr => by
 obtain ⟨_, o, ho, hall⟩ := mem_ready.1 hr
 unfold waitsFor at hw
 rw [ho] at hw
 simp only [Option.map_some, Option.getD_some] at hw
 rw [Array.any_eq_true] at hw
 obtain ⟨k, hk, hb⟩ := hw
 rw [Bool.and_eq_true, beq_iff_eq] at hb
 have h1 := hall _ (Array.getElem_mem hk) hb.1
 rw [hb.2] at h1
 rcases Nat.lt_or_ge i listed.size with h | h
 ·simp [h] at hu h1
  rw [hu] at h1
  cases h1
 ·simp [h] at h1
theorem wpAnyL_first {i : Nat} {oi : Oper} {v : Value} {S1 : World -> Prop} (hi : ops[i]? = some oi) (hsel : ∀ (j : Nat) (o : Oper) cs b, ops[j]? = some o -> o.op ≠ .select cs b)
  (hQ : ∀ c a w, Q (.panic c) (a.put oi.dst v) w -> Q (.panic c) a w) (hS1 : ∀ W, S W -> S1 W) (hin : i ≠ n) :
  ∀ (fuel : Nat) (listed : Array Bool) (a : Act) (w : World),
   (∀ j oj, ops[j]? = some oj -> j ≠ i -> listed.getD j true = false -> (∀ e ∈ oj.after, Region.binds md e = true -> e.on ≠ i) -> oi.apart ops oj = true) ->
   i ∈ Region.ready md ops listed -> YieldsIf P ops S1 oi v a -> (listed.getD n false = false -> S w) -> ((∀ W, S1 W) \/ (waitsFor md ops n i = true /\ listed.getD n false = false)) ->
   wpAnyL P md ops Q S n fuel (listed.setIfInBounds i true) (a.put oi.dst v) w -> wpAnyL P md ops Q S n (fuel + 1) listed a w := by
 intro fuel
 have hat : ∀ {listed : Array Bool} {w : World}, (listed.getD n false = false -> S w) -> ((∀ W, S1 W) \/ (waitsFor md ops n i = true /\ listed.getD n false = false)) -> S1 w := fun hS hn => hn.elim (fun h => h _) (fun h => hS1 _ (hS h.2))
 have hup : ∀ {listed : Array Bool} {w : World}, (listed.getD n false = false -> S w) -> ((listed.setIfInBounds i true).getD n false = false -> S w) := fun {listed w} hS hn => hS (by rw [getD_set_ne false hin] at hn; exact hn)
 induction fuel with
 | zero =>
  intro listed a w _ hr hy hS hn H
  refine ⟨fun h => (by rw [h] at hr; cases hr), fun j hj => ?_⟩
  by_cases hji : j = i
  ·subst hji; exact hy.wpOp hi (hat hS hn) ⟨hup hS, H⟩
  ·have := ready_mono hj hji
   rw [H.1] at this
   cases this
 | succ fuel ih =>
  intro listed a w hfree hr hy hS hn H
  refine ⟨fun h => (by rw [h] at hr; cases hr), fun j hj => ?_⟩
  by_cases hji : j = i
  ·subst hji; exact hy.wpOp hi (hat hS hn) ⟨hup hS, H⟩
  ·have h1 := H.2 j (ready_mono hj hji)
   obtain ⟨hjun, oj, hoj, hall⟩ := mem_ready.1 hj
   have hiun := (mem_ready.1 hr).1
   have hnot : ∀ e ∈ oj.after, Region.binds md e = true -> e.on ≠ i := fun e he hb heq => by
    have h1 := hall e he hb
    have h0 := (mem_ready.1 hr).1
    rw [heq] at h1
    rcases Nat.lt_or_ge i listed.size with h' | h'
    ·simp [h'] at h0 h1; rw [h0] at h1; cases h1
    ·simp [Array.getElem?_eq_none h'] at h1
   have h2 := wpOp_putIf hoj (hfree j oj hoj hji hjun hnot) (fun cs b => hsel i oi cs b hi) (fun cs b => hsel j oj cs b hoj) hQ hy h1
   have hfree' : ∀ k ok, ops[k]? = some ok -> k ≠ i -> (listed.setIfInBounds j true).getD k true = false ->
     (∀ e ∈ ok.after, Region.binds md e = true -> e.on ≠ i) -> oi.apart ops ok = true := fun k ok hk hki hun hno => by
    refine hfree k ok hk hki ?_ hno
    by_cases hjk : j = k
    ·subst hjk; exact hjun
    ·rw [getD_set_ne true hjk] at hun; exact hun
   have hn' : (∀ W, S1 W) \/ (waitsFor md ops n i = true /\ (listed.setIfInBounds j true).getD n false = false) := hn.imp id (fun h => ⟨h.1, by
    have hjn : j ≠ n := fun e => not_ready h.1 hiun (by rw [<- e]; exact hj)
    rw [getD_set_ne false hjn]
    exact h.2⟩)
   refine wpOp_mono (fun a' w' h3 => ?_) h2
   have hS' : (listed.setIfInBounds j true).getD n false = false -> S w' := fun hh => h3.2.1 (by
    rw [Array.setIfInBounds_comm _ _ (Ne.symm hji), getD_set_ne false hin]
    exact hh)
   refine ⟨hS', ih (listed.setIfInBounds j true) a' w' hfree' (ready_mono hr (Ne.symm hji)) h3.1 hS' hn' ?_⟩
   rw [Array.setIfInBounds_comm _ _ hji]
   exact h3.2.2
theorem wpAnyL_take {i : Nat} {oi : Oper} {v : Value} {fuel : Nat} {listed : Array Bool} {a : Act} {w : World} (hi : ops[i]? = some oi)
  (hs : Region.noSelect ops = true) (hf : Region.free md ops listed i = true) (hr : (Region.ready md ops listed).contains i = true)
  (hQ : ∀ c a w, Q (.panic c) (a.put oi.dst v) w -> Q (.panic c) a w) (hin : i ≠ n) (hw : waitsFor md ops n i = true) (hnl : listed.getD n false = false) (hy : YieldsIf P ops S oi v a) (hS : S w)
  (h : wpAnyL P md ops Q S n fuel (listed.setIfInBounds i true) (a.put oi.dst v) w) : wpAnyL P md ops Q S n (fuel + 1) listed a w :=
 wpAnyL_first hi (Region.noSelect_spec hs) hQ (fun _ h => h) hin fuel listed a w (Region.free_spec hi hf) (by simpa using hr) hy (fun _ => hS) (.inr ⟨hw, hnl⟩) h
theorem wpAnyL_takeW {i : Nat} {oi : Oper} {v : Value} {fuel : Nat} {listed : Array Bool} {a : Act} {w : World} (hi : ops[i]? = some oi)
  (hs : Region.noSelect ops = true) (hf : Region.free md ops listed i = true) (hr : (Region.ready md ops listed).contains i = true)
  (hQ : ∀ c a w, Q (.panic c) (a.put oi.dst v) w -> Q (.panic c) a w) (hin : i ≠ n) (hy : YieldsIf P ops (fun _ => True) oi v a) (hS : S w)
  (h : wpAnyL P md ops Q S n fuel (listed.setIfInBounds i true) (a.put oi.dst v) w) : wpAnyL P md ops Q S n (fuel + 1) listed a w :=
 wpAnyL_first hi (Region.noSelect_spec hs) hQ (fun _ _ => trivial) hin fuel listed a w (Region.free_spec hi hf) (by simpa using hr) hy (fun _ => hS) (.inl fun _ => trivial) h
theorem wpAnyL_one {i : Nat} {o : Oper} {fuel : Nat} {listed : Array Bool} {a : Act} {w : World} (hr : Region.ready md ops listed = [i]) (ho : ops[i]? = some o)
  (h : ∀ K' : Act -> World -> Prop, Shut (∀ a w, S w -> (S w -> wpAnyL P md ops Q S n fuel (listed.setIfInBounds i true) a w) -> K' a w) -> if Region.wanted o (yielded ops a.tmps) = true then Oper.wp P o a w K' Q else K' (a.put o.dst undef) w) : wpAnyL P md ops Q S n (fuel + 1) listed a w := by
 refine ⟨fun h0 => (by rw [hr] at h0; cases h0), fun j hj => ?_⟩
 rw [hr, List.mem_singleton] at hj
 subst hj
 exact wpOp_step ho (fun K' hK => h K' (fun a w hS hW => hK a w ⟨fun _ => hS, hW hS⟩))
theorem wpAnyL_end {i : Nat} {o : Oper} {fuel : Nat} {listed : Array Bool} {a : Act} {w : World} (hr : Region.ready md ops listed = [i]) (ho : ops[i]? = some o) (hd1 : Region.ready md ops (listed.setIfInBounds i true) = []) (hd2 : (listed.setIfInBounds i true).getD n false = true)
  (h : ∀ K' : Act -> World -> Prop, Shut (∀ a w, Q .normal a w -> K' a w) -> if Region.wanted o (yielded ops a.tmps) = true then Oper.wp P o a w K' Q else K' (a.put o.dst undef) w) : wpAnyL P md ops Q S n (fuel + 1) listed a w := by
 refine ⟨fun h0 => (by rw [hr] at h0; cases h0), fun j hj => ?_⟩
 rw [hr, List.mem_singleton] at hj
 subst hj
 refine wpOp_step ho (fun K' hK => h K' (fun a w hq => hK a w ⟨fun hf => (by rw [hd2] at hf; cases hf), ?_⟩))
 cases fuel with
 | zero => exact ⟨hd1, hq⟩
 | succ fuel => exact ⟨fun _ => hq, fun i hi => (by rw [hd1] at hi; cases hi)⟩
theorem wp_region_last {id : Nat} {a : Act} {w : World} (hm : P.follows .mixedOrders = true) (hS : S w.drew)
  (h : S w.drew -> wpAnyL P .any ops Q S n ops.size (Array.replicate ops.size false) a w.drew) : (Code.region id ops true).wp P Q a w :=
 wp_region_any hm (any_of_last _ _ _ _ (h hS))
end
section
variable {P : Program} {ops : Array Oper} {Q : Exit -> Act -> World -> Prop} {md : Region.Mode} {S : World -> Prop} {n : Nat}
theorem wpAnyL_firstN {i : Nat} {oi : Oper} {v : Value} {S1 : World -> Prop} (hi : ops[i]? = some oi) (hsel : ∀ (j : Nat) (o : Oper) cs b, ops[j]? = some o -> o.op ≠ .select cs b)
  (hQ : ∀ c a w, Q (.panic c) (a.put oi.dst v) w -> Q (.panic c) a w) (hS1 : ∀ W, S W -> S1 W) (hin : i ≠ n) (hnn : ops.size <= n) :
  ∀ (fuel : Nat) (listed : Array Bool) (a : Act) (w : World),
   (∀ j oj, ops[j]? = some oj -> j ≠ i -> listed.getD j true = false -> (∀ e ∈ oj.after, Region.binds md e = true -> e.on ≠ i) -> oi.apart ops oj = true) ->
   i ∈ Region.ready md ops listed -> YieldsIf P ops S1 oi v a -> (listed.getD n false = false -> S w) -> (listed.getD n false = false) ->
   wpAnyL P md ops Q S n fuel (listed.setIfInBounds i true) (a.put oi.dst v) w -> wpAnyL P md ops Q S n (fuel + 1) listed a w := by
 intro fuel
 have hat : ∀ {listed : Array Bool} {w : World}, (listed.getD n false = false -> S w) -> (listed.getD n false = false) -> S1 w := fun hS hn => hS1 _ (hS hn)
 have hup : ∀ {listed : Array Bool} {w : World}, (listed.getD n false = false -> S w) -> ((listed.setIfInBounds i true).getD n false = false -> S w) := fun {listed w} hS hn => hS (by rw [getD_set_ne false hin] at hn; exact hn)
 induction fuel with
 | zero =>
  intro listed a w _ hr hy hS hn H
  refine ⟨fun h => (by rw [h] at hr; cases hr), fun j hj => ?_⟩
  by_cases hji : j = i
  ·subst hji; exact hy.wpOp hi (hat hS hn) ⟨hup hS, H⟩
  ·have := ready_mono hj hji
   rw [H.1] at this
   cases this
 | succ fuel ih =>
  intro listed a w hfree hr hy hS hn H
  refine ⟨fun h => (by rw [h] at hr; cases hr), fun j hj => ?_⟩
  by_cases hji : j = i
  ·subst hji; exact hy.wpOp hi (hat hS hn) ⟨hup hS, H⟩
  ·have h1 := H.2 j (ready_mono hj hji)
   obtain ⟨hjun, oj, hoj, hall⟩ := mem_ready.1 hj
   have hiun := (mem_ready.1 hr).1
   have hnot : ∀ e ∈ oj.after, Region.binds md e = true -> e.on ≠ i := fun e he hb heq => by
    have h1 := hall e he hb
    have h0 := (mem_ready.1 hr).1
    rw [heq] at h1
    rcases Nat.lt_or_ge i listed.size with h' | h'
    ·simp [h'] at h0 h1; rw [h0] at h1; cases h1
    ·simp [Array.getElem?_eq_none h'] at h1
   have h2 := wpOp_putIf hoj (hfree j oj hoj hji hjun hnot) (fun cs b => hsel i oi cs b hi) (fun cs b => hsel j oj cs b hoj) hQ hy h1
   have hfree' : ∀ k ok, ops[k]? = some ok -> k ≠ i -> (listed.setIfInBounds j true).getD k true = false ->
     (∀ e ∈ ok.after, Region.binds md e = true -> e.on ≠ i) -> oi.apart ops ok = true := fun k ok hk hki hun hno => by
    refine hfree k ok hk hki ?_ hno
    by_cases hjk : j = k
    ·subst hjk; exact hjun
    ·rw [getD_set_ne true hjk] at hun; exact hun
   have hn' : (listed.setIfInBounds j true).getD n false = false := by
    have hjn : j ≠ n := fun e => by
     have h9 := (List.getElem?_eq_some_iff (l := ops.toList) (i := j) (a := oj)).1 (by simpa using hoj)
     obtain ⟨h9, _⟩ := h9
     have : j < ops.size := by simpa using h9
     omega
    rw [getD_set_ne false hjn]
    exact hn
   refine wpOp_mono (fun a' w' h3 => ?_) h2
   have hS' : (listed.setIfInBounds j true).getD n false = false -> S w' := fun hh => h3.2.1 (by
    rw [Array.setIfInBounds_comm _ _ (Ne.symm hji), getD_set_ne false hin]
    exact hh)
   refine ⟨hS', ih (listed.setIfInBounds j true) a' w' hfree' (ready_mono hr (Ne.symm hji)) h3.1 hS' hn' ?_⟩
   rw [Array.setIfInBounds_comm _ _ hji]
   exact h3.2.2
theorem wpAnyL_takeN {i : Nat} {oi : Oper} {v : Value} {fuel : Nat} {listed : Array Bool} {a : Act} {w : World} (hi : ops[i]? = some oi)
  (hs : Region.noSelect ops = true) (hf : Region.free md ops listed i = true) (hr : (Region.ready md ops listed).contains i = true)
  (hQ : ∀ c a w, Q (.panic c) (a.put oi.dst v) w -> Q (.panic c) a w) (hin : i ≠ n) (hnn : ops.size <= n) (hnl : listed.getD n false = false) (hy : YieldsIf P ops S oi v a) (hS : S w)
  (h : wpAnyL P md ops Q S n fuel (listed.setIfInBounds i true) (a.put oi.dst v) w) : wpAnyL P md ops Q S n (fuel + 1) listed a w :=
 wpAnyL_firstN hi (Region.noSelect_spec hs) hQ (fun _ h => h) hin hnn fuel listed a w (Region.free_spec hi hf) (by simpa using hr) hy (fun _ => hS) hnl h
theorem wpAnyL_done {fuel : Nat} {listed : Array Bool} {a : Act} {w : World} (hr : Region.ready md ops listed = []) (h : Q .normal a w) : wpAnyL P md ops Q S n fuel listed a w := by
 cases fuel with
 | zero => exact ⟨hr, h⟩
 | succ fuel => exact ⟨fun _ => h, fun i hi => (by rw [hr] at hi; cases hi)⟩
end
section
variable {P : Program} {ops : Array Oper} {Q : Exit -> Act -> World -> Prop} {md : Region.Mode} {S : World -> Prop} {n : Nat}
def tkB (md : Region.Mode) (ops : Array Oper) (listed : Array Bool) (n i : Nat) : Bool := Region.noSelect ops && Region.free md ops listed i && (Region.ready md ops listed).contains i && decide (i ≠ n)
theorem tkB_spec {md : Region.Mode} {ops : Array Oper} {listed : Array Bool} {n i : Nat} (h : tkB md ops listed n i = true) : Region.noSelect ops = true /\ Region.free md ops listed i = true /\ (Region.ready md ops listed).contains i = true /\ i ≠ n := by
 simp only [tkB, Bool.and_eq_true, decide_eq_true_eq] at h
 exact ⟨h.1.1.1, h.1.1.2, h.1.2, h.2⟩
theorem tkW (i : Nat) {oi : Oper} {v : Value} {fuel : Nat} {listed : Array Bool} {a a' : Act} {w : World}
  (h : wpAnyL P md ops Q S n fuel (listed.setIfInBounds i true) a' w) (hi : ops[i]? = some oi := by rfl) (hb : tkB md ops listed n i = true := by kernel_rfl)
  (hQ : ∀ c a w, Q (.panic c) (a.put oi.dst v) w -> Q (.panic c) a w := by exact fun _ _ _ h => h)
  (hy : YieldsIf P ops (fun _ => True) oi v a := by (refine Or.inl ⟨by rfl, ?_⟩; intro W _; go_simp; try with_reducible rfl))
  (ha : a.put oi.dst v = a' := by (simp only [Act.put, List.setIfInBounds_toArray, List.set_cons_zero, List.set_cons_succ, List.getElem_toArray, List.getElem_cons_zero, List.getElem_cons_succ]; rfl))
  (hS : S w := by assumption) : wpAnyL P md ops Q S n (fuel + 1) listed a w := by
 obtain ⟨h1, h2, h3, h4⟩ := tkB_spec hb
 subst ha
 exact wpAnyL_takeW hi h1 h2 h3 hQ h4 hy hS h
theorem tkN (i : Nat) {oi : Oper} {v : Value} {fuel : Nat} {listed : Array Bool} {a a' : Act} {w : World}
  (h : wpAnyL P md ops Q S n fuel (listed.setIfInBounds i true) a' w) (hi : ops[i]? = some oi := by rfl) (hb : tkB md ops listed n i = true := by kernel_rfl)
  (hQ : ∀ c a w, Q (.panic c) (a.put oi.dst v) w -> Q (.panic c) a w := by exact fun _ _ _ h => h) (hnn : ops.size <= n := by simp) (hnl : listed.getD n false = false := by kernel_rfl)
  (hy : YieldsIf P ops S oi v a := by (refine Or.inl ⟨by rfl, ?_⟩; intro W hSW; (try dsimp only at hSW); go_simp; try with_reducible rfl))
  (ha : a.put oi.dst v = a' := by (simp only [Act.put, List.setIfInBounds_toArray, List.set_cons_zero, List.set_cons_succ, List.getElem_toArray, List.getElem_cons_zero, List.getElem_cons_succ]; rfl))
  (hS : S w := by assumption) : wpAnyL P md ops Q S n (fuel + 1) listed a w := by
 obtain ⟨h1, h2, h3, h4⟩ := tkB_spec hb
 subst ha
 exact wpAnyL_takeN hi h1 h2 h3 hQ h4 hnn hnl hy hS h
theorem tkS (i : Nat) {oi : Oper} {v : Value} {fuel : Nat} {listed : Array Bool} {a a' : Act} {w : World}
  (h : wpAnyL P md ops Q S n fuel (listed.setIfInBounds i true) a' w) (hi : ops[i]? = some oi := by rfl) (hb : tkB md ops listed n i = true := by kernel_rfl)
  (hQ : ∀ c a w, Q (.panic c) (a.put oi.dst v) w -> Q (.panic c) a w := by exact fun _ _ _ h => h) (hw : waitsFor md ops n i = true := by kernel_rfl) (hnl : listed.getD n false = false := by kernel_rfl)
  (hy : YieldsIf P ops S oi v a := by (refine Or.inl ⟨by rfl, ?_⟩; intro W hSW; (try dsimp only at hSW); go_simp; try with_reducible rfl))
  (ha : a.put oi.dst v = a' := by (simp only [Act.put, List.setIfInBounds_toArray, List.set_cons_zero, List.set_cons_succ, List.getElem_toArray, List.getElem_cons_zero, List.getElem_cons_succ]; rfl))
  (hS : S w := by assumption) : wpAnyL P md ops Q S n (fuel + 1) listed a w := by
 obtain ⟨h1, h2, h3, h4⟩ := tkB_spec hb
 subst ha
 exact wpAnyL_take hi h1 h2 h3 hQ h4 hw hnl hy hS h
theorem tkX (i : Nat) {oi : Oper} {fuel : Nat} {listed : Array Bool} {a a' : Act} {w : World}
  (h : wpAnyL P md ops Q S n fuel (listed.setIfInBounds i true) a' w) (hi : ops[i]? = some oi := by rfl) (hb : tkB md ops listed n i = true := by kernel_rfl)
  (hQ : ∀ c a w, Q (.panic c) (a.put oi.dst undef) w -> Q (.panic c) a w := by exact fun _ _ _ h => h)
  (hy : YieldsIf P ops (fun _ => True) oi undef a := by exact Or.inr ⟨by rfl, rfl⟩)
  (ha : a.put oi.dst undef = a' := by (simp only [Act.put, List.setIfInBounds_toArray, List.set_cons_zero, List.set_cons_succ, List.getElem_toArray, List.getElem_cons_zero, List.getElem_cons_succ]; rfl))
  (hS : S w := by assumption) : wpAnyL P md ops Q S n (fuel + 1) listed a w := by
 obtain ⟨h1, h2, h3, h4⟩ := tkB_spec hb
 subst ha
 exact wpAnyL_takeW hi h1 h2 h3 hQ h4 hy hS h
end
end Go.Proofs.YtpeohbkigkfcgabGreatDoor
