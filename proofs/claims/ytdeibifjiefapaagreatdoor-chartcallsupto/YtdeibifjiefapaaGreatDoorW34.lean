import Derived.Test.YtdeibifjiefapaaGreatDoorW33
import Derived.Test.YtdeibifjiefapaaGreatDoorW31
import Derived.Deep.RegionHeld3
import Derived.Deep.RegionLaw
/- The keeper's accounts: Room (12), Kept (15). By tools/genkc.py. -/
namespace Go.Proofs.YtdeibifjiefapaaGreatDoor.Kg
open Go Go.Shelf Go.ChangeShapes Go.WideShapes Go.ChangeAt Go.RowKit Go.Maps
set_option linter.unusedVariables false
set_option linter.unusedSimpArgs false
/-- what Room hands back -/
def RoomOutD (X : List Am) (n : Nat) (w : World) (e : Ending) (w' : World) : Prop :=
  ∃ g c, e = .returned (.slice (some ⟨g, 0, none⟩) (n + 64) c) ∧ w'.ownsRow w.heap.size 65 4 (.slice (some ⟨g, 0, none⟩) (n + 64) c) (n + 64) (kD.flat (X ++ mks zD 700000 64)) ∧ Below w.heap.size w w'
/-- the copy while marks are put behind it -/
structure RoomAtD (X : List Am) (n : Nat) (w : World) (j : Nat) (v : Value) (wr : World) : Prop where
  own : wr.ownsRow w.heap.size 65 4 v (n + j) (kD.flat (X ++ mks zD 700000 j))
  bel : Below w.heap.size w wr
theorem own_lit0D (w : World) : (w.alloc (.cells #[] 65)).ownsRow w.heap.size 65 4 (.slice (some ⟨w.heap.size, 0, none⟩) 0 0) 0 (kD.flat []) := by
  refine ⟨by simp [Kd.flat], .inr ⟨w.heap.size, 0, #[], rfl, Nat.le_refl _, ?_, Nat.le_refl _, Nat.zero_le _, by simp, by simp [Kd.flat]⟩⟩
  exact heap_new w _
set_option maxRecDepth 100000 in
set_option maxHeartbeats 4000000 in
theorem roomD (X : List Am) (pp : Option Addr) (n cc : Nat) (hX : X.length = n) (hcc : pp = none → cc = 0) (hn : (n + 64 + (n + 64) / 4 + 192) * 40 ≤ 281474976710656) (w : World) (hP : Pw w) (hL : Lies kD w pp X) :
    Calls Tryz.prog 12 #[.slice pp n cc] w fun e w' => RoomOutD X n w e w' := by
  have hnm : n + 64 ≤ maxLen := by unfold maxLen; omega
  have eby : kD.by' = 40 := rfl
  have hb0 : (0 + n + (0 + n) / 4 + 192) * 40 ≤ 281474976710656 := Nat.le_trans (Nat.mul_le_mul_right _ (by omega)) hn
  have b0 : Below w.heap.size w (w.alloc (.cells #[] 65)) := bal (Below.refl _ w) _
  obtain ⟨p5, c5, w5, r5, o5, b5⟩ := run_appW (K := kD) kD_ok (L := []) (M := X) 22 (own_lit0D w) (by simp) pp cc hcc (hL.below b0) (by rw [hX]; omega) (by rw [hX, eby]; exact hb0)
  rw [hX, Nat.zero_add] at r5 o5
  rw [List.nil_append] at o5
  have HS : Hid (RoomAtD X n w 0 (.slice p5 n c5) w5) := ⟨by rw [show mks zD 700000 0 = [] from rfl, List.append_nil]; exact o5, b0.trans b5⟩
  have HR5 := hide r5; have HPW := hide hP; have HN := hide hn; have HNM := hide hnm
  have hnn : n ≤ 9223372036854775000 := by omega
  clear r5 o5 b5 b0 hP hL hn hnm hb0 eby hcc hX
  go_enter Tryz.func12, Tryz.ntmps12
  go_wp2_with (at_builtin; refine wpList_append_run rfl _ _ 22 rfl _ _ _ _ rfl rfl (unhide HR5) ?_)
  go_loopw [3, 4] (fun v i wr => ∃ j : Nat, j ≤ 64 ∧ i = .int .i64 (j : Int) ∧ (∃ p' c', v = .slice p' (n + j) c') ∧ Hid (RoomAtD X n w j v wr)) (fun _ i _ => 64 - (intOf i).toNat)
  case atStart => exact ⟨0, by omega, rfl, ⟨_, _, rfl⟩, unhide HS⟩
  case round =>
    obtain ⟨j, hj, rfl, ⟨p7, c7, rfl⟩, HA⟩ := hrel
    have hA := unhide HA
    by_cases hlt : j < 64
    · have hI : (j : Int) < 64 := by omega
      have hmk := hide (markD 700000 j (by omega) (by omega) wr ((unhide HPW).below hA.bel))
      have HSTEP : Hid (∀ w2, Below wr.heap.size wr w2 → ∃ p' c' w', (Builtin.append_ #[22, 22] 22 #[.slice p7 (n + j) c7, .slice (some ⟨w2.heap.size, 0, none⟩) 1 1]).run Tryz.prog (w2.alloc (.cells #[.string (mkS 700000 j), .int .i64 (-(j : Int) - 1), .int .i64 0, .bool false] 65)) = .ok (.slice p' (n + j + 1) c') w' ∧ RoomAtD X n w (j + 1) (.slice p' (n + j + 1) c') w') := fun w2 hb => by
        have hba := bal hb (.cells #[.string (mkS 700000 j), .int .i64 (-(j : Int) - 1), .int .i64 0, .bool false] 65)
        have hn := unhide HN
        have hnm := unhide HNM
        have eby : kD.by' = 40 := rfl
        have hbj : (n + j + 1 + (n + j + 1) / 4 + 192) * 40 ≤ 281474976710656 := Nat.le_trans (Nat.mul_le_mul_right _ (by omega)) hn
        obtain ⟨p', c', w', r, o, b⟩ := run_appW (K := kD) kD_ok 22 (W := w2.alloc (.cells #[.string (mkS 700000 j), .int .i64 (-(j : Int) - 1), .int .i64 0, .bool false] 65)) (M := [mkD 700000 j]) (row_far hA.own fun q hq => hba.block q (row_lt hA.own hq).2) (Nat.le_trans hA.bel.size hba.size) (some ⟨w2.heap.size, 0, none⟩) 1 (fun h => by cases h) (one_lies w2 (mkD 700000 j) 65 _ rfl) (by rw [List.length_singleton]; omega) (by rw [List.length_singleton, eby]; exact hbj)
        simp only [List.length_singleton] at r o
        refine ⟨p', c', w', r, ⟨?_, (hA.bel.trans (hba.mono hA.bel.size)).trans b⟩⟩
        rw [mks_succ, ← List.append_assoc]
        exact o
      clear hA
      unfold cvD at hmk
      simp only [mkD] at hmk
      go_wp2_with fail
      refine (unhide hmk).mono ?_
      rintro e w2 ⟨rfl, hb⟩
      obtain ⟨p', c', w', r, hrel⟩ := unhide HSTEP w2 hb
      have HREL := hide hrel
      clear hb hrel HSTEP
      go_wp2_with (at_builtin; refine wpList_append_run rfl _ _ 22 rfl _ _ _ _ rfl rfl r ?_)
      exact ⟨⟨j + 1, by omega, by go_num, ⟨_, _, rfl⟩, unhide HREL⟩, by simp [intOf]; omega⟩
    · have hj64 : j = 64 := by omega
      subst hj64
      have HF : Hid (∀ e, e = Ending.returned (.slice p7 (n + 64) c7) → RoomOutD X n w e wr) := fun e he => by
        obtain ⟨g, c, hv⟩ := own_open hA.own (by omega)
        injection hv with h1 _ h2
        subst h1 h2
        exact ⟨g, c7, he, hA.own, hA.bel⟩
      clear hA
      go_wp2_with fail
      go_ret
      exact unhide HF _ rfl
attribute [local go_sem ↓] ldKD_is
set_option maxRecDepth 100000 in
set_option maxHeartbeats 8000000 in
theorem keptD (X : List Am) (pp pg : Option Addr) (n cc c : Nat) (hX : X.length = n) (hn : n ≤ 4611686018427387904) (w : World) (hP : Pw w) (hL : Lies kD w pp X) (hG : Lies kD w pg (X ++ mks zD 700000 64)) :
    Calls Tryz.prog 15 #[.slice pg (n + 64) c, .slice pp n cc] w fun e w' => e = .returned (.bool true) ∧ Below w.heap.size w w' := by
  have HP := hide hP; have HL := hide hL; have HG := hide hG; have HX := hide hX
  clear hP hL hG hX
  go_enter Tryz.func15, Tryz.ntmps15
  go_wp2_with fail
  go_loopw [5] (fun i wr => ∃ (k : Nat) (K : Int), k ≤ n + 64 ∧ i = .int .i64 K ∧ K = (k : Int) ∧ Hid (Below w.heap.size w wr)) (fun i _ => ((n : Int) + 64 - intOf i).toNat)
  case atStart => exact ⟨0, 0, by omega, rfl, rfl, Below.refl _ _⟩
  case round =>
    obtain ⟨k, K, hk, rfl, hK, HB⟩ := hrel
    have hb := unhide HB
    have HK := hide hK
    have hK0 : 0 ≤ K := by omega
    have hKt : K.toNat = k := by omega
    by_cases hlt : k < n + 64
    · have hI : K < (n : Int) + 64 := by omega
      obtain ⟨b1, o1, e1, r1⟩ := ldBD ((unhide HG).below hb) (k := k) (by rw [List.length_append, unhide HX, mks_len]; exact hlt)
      subst e1
      by_cases hkn : k < n
      · obtain ⟨b2, o2, e2, r2⟩ := ldBD ((unhide HL).below hb) (k := k) (by rw [unhide HX]; exact hkn)
        subst e2
        rw [List.getElem_append_left (by rw [unhide HX]; exact hkn)] at r1
        obtain ⟨vx, hvx⟩ : ∃ vx, vx = cvD (X[k]'(by rw [unhide HX]; exact hkn)) := ⟨_, rfl⟩
        rw [← hvx] at r1 r2
        have x0 : ∀ P : Bel wr, (ldKD (.pointer (some ⟨b1, o1 + k * 4, none⟩))).run Tryz.prog P.W = .ok vx P.W := fun P => r1 P.W P.h
        have y0 : ∀ P : Bel wr, (ldKD (.pointer (some ⟨b2, o2 + k * 4, none⟩))).run Tryz.prog P.W = .ok vx P.W := fun P => r2 P.W P.h
        have HSM : Hid (∀ P : Bel wr, Calls Tryz.prog 79 #[vx, vx] P.W fun e w'' => e = .returned (.bool true) ∧ ∃ q : Bel wr, w'' = q.W) := fun P => by
          rw [hvx]
          exact (eqkD _ P.W).mono (fun e w' ⟨h1, h2⟩ => ⟨h1, ⟨w', P.h.trans (h2.mono P.h.size)⟩, rfl⟩)
        subst hK
        have hI1 : (k : Int) < (n : Int) := by omega
        have hI2 : ¬ (n : Int) ≤ (k : Int) := by omega
        have hN2 : ¬ n ≤ k := by omega
        have hD2 : decide (n ≤ k) = false := decide_eq_false hN2
        clear r1 r2 hvx hb hk HK hKt
        go_wp2_with fail
        refine wp_region_quiet_below (by kernel_rfl) (by kernel_rfl) ?_
        repeat (go_big_quiet_step (first | (go_at_call 79; refine unhide HSM _)))
        refine wpQuiet_nil ?_
        rintro _ ⟨P, rfl⟩
        clear x0 y0
        go_wp2_with fail
        exact ⟨⟨k + 1, (k : Int) + 1, by omega, by go_num, by omega, (unhide HB).trans (P.h.mono (unhide HB).size)⟩, by simp [intOf]; omega⟩
      · obtain ⟨j, hjk⟩ : ∃ j, k = n + j := ⟨k - n, by omega⟩
        have ej : ∀ h, (X ++ mks zD 700000 64)[k]'h = mkD 700000 j := fun h => by
          have e9 : (X ++ mks zD 700000 64)[k]? = some (mkD 700000 j) := by
            rw [List.getElem?_append_right (by rw [unhide HX]; omega), unhide HX, show k - n = j by omega, List.getElem?_eq_getElem (by rw [mks_len]; omega), mks_get]
            rfl
          rw [List.getElem?_eq_getElem h] at e9
          exact Option.some.inj e9
        rw [ej] at r1
        obtain ⟨vx, hvx⟩ : ∃ vx, vx = cvD (mkD 700000 j) := ⟨_, rfl⟩
        rw [← hvx] at r1
        have x0 : ∀ P : Bel wr, (ldKD (.pointer (some ⟨b1, o1 + k * 4, none⟩))).run Tryz.prog P.W = .ok vx P.W := fun P => r1 P.W P.h
        have hI1 : ¬ K < (n : Int) := by omega
        have hI2 : (n : Int) ≤ K := by omega
        have hI3 : K - (n : Int) = (j : Int) := by omega
        have hwj : IntKind.i64.wrap (j : Int) = (j : Int) := by rw [IntKind.wrap_i64]; omega
        have hwK : IntKind.i64.wrap (K - (n : Int)) = (j : Int) := by rw [hI3, hwj]
        have hD1 : decide (K < (n : Int)) = false := decide_eq_false hI1
        have hD2 : decide ((n : Int) ≤ K) = true := decide_eq_true hI2
        have HMK : Hid (∀ P : Bel wr, Calls Tryz.prog 75 #[.int .i64 700000, .int .i64 (j : Int)] P.W fun e w'' => e = .returned vx ∧ ∃ q : Bel wr, w'' = q.W) := fun P => by
          rw [hvx]
          exact (markD 700000 j (by omega) (by omega) P.W (((unhide HP).below hb).below P.h)).mono (fun e w' ⟨h1, h2⟩ => ⟨h1, ⟨w', P.h.trans (h2.mono P.h.size)⟩, rfl⟩)
        have HSM : Hid (∀ P : Bel wr, Calls Tryz.prog 79 #[vx, vx] P.W fun e w'' => e = .returned (.bool true) ∧ ∃ q : Bel wr, w'' = q.W) := fun P => by
          rw [hvx]
          exact (eqkD _ P.W).mono (fun e w' ⟨h1, h2⟩ => ⟨h1, ⟨w', P.h.trans (h2.mono P.h.size)⟩, rfl⟩)
        clear r1 hvx hb hK hlt hk hkn hjk ej
        go_wp2_with fail
        refine wp_region_quiet_below (by kernel_rfl) (by kernel_rfl) ?_
        repeat (go_big_quiet_step (first | (go_at_call 79; refine unhide HSM _) | (go_at_call 75; refine unhide HMK _)))
        refine wpQuiet_nil ?_
        rintro _ ⟨P, rfl⟩
        clear x0
        go_wp2_with fail
        exact ⟨⟨k + 1, K + 1, by have := unhide HK; omega, by go_num, by have := unhide HK; omega, (unhide HB).trans (P.h.mono (unhide HB).size)⟩, by have := unhide HK; simp [intOf]; omega⟩
    · have hI : ¬ K < (n : Int) + 64 := by omega
      clear hb hK
      go_wp2_with fail
      go_ret
      exact ⟨rfl, unhide HB⟩
end Go.Proofs.YtdeibifjiefapaaGreatDoor.Kg
/- The keeper's pages of texts: mark (170), same (240), fill (96), grow (97). By tools/gen10x.py. -/
namespace Go.Proofs.YtdeibifjiefapaaGreatDoor.Kg
open Go Go.Shelf Go.ChangeShapes Go.WideShapes Go.ChangeAt Go.RowKit Go.Maps
set_option linter.unusedVariables false
set_option linter.unusedSimpArgs false
def cvX (x : Tm) : Value := .string x.txt
def mkX (id k : Nat) : Tm := ⟨mkS id k⟩
def zX : Kk Tm := ⟨kX, mkX, 112, 40, 4⟩
theorem zX_ok : KkOK zX := by
  refine ⟨kX_ok, Tryz.underlying40, ?_, by decide⟩
  have h : (Tryz.prog.info? 112).map (fun i => (i.zero.map (fun z => z.cells.size), i.size, i.bytes)) = some (some 5, 5, 88) := by kernel_rfl
  obtain ⟨i, hi, hzz⟩ := Option.map_eq_some_iff.1 h
  simp only [Prod.mk.injEq] at hzz
  obtain ⟨z, hz, hs⟩ := Option.map_eq_some_iff.1 hzz.1
  exact ⟨i, z, hi, hz, hs, hzz.2.1, hzz.2.2⟩
theorem markX (id k : Nat) (hid : id < 1000000) (hk : k < 1000000) (w : World) (h : Pw w) : Calls Tryz.prog 170 #[.int .i64 (id : Int), .int .i64 (k : Int)] w fun e w' => e = .returned (cvX (mkX id k)) ∧ Below w.heap.size w w' := by
  have d := hide (text_any id k hid hk w h)
  unfold cvX mkX
  obtain ⟨s, hs⟩ : ∃ s, s = mkS id k := ⟨_, rfl⟩
  rw [← hs] at d ⊢
  clear hs
  go_enter Tryz.func170, Tryz.ntmps170
  go_wp2_with fail
  refine (unhide d).mono ?_
  rintro e w2 ⟨rfl, hg⟩
  have B2 := hide hg.below
  clear hg
  go_wp2_with fail
  go_ret
  exact ⟨rfl, unhide B2⟩
theorem eqkX (x : Tm) (w : World) : Calls Tryz.prog 240 #[cvX x, cvX x] w fun e w' => e = .returned (.bool true) ∧ Below w.heap.size w w' := by
  unfold cvX
  go_enter Tryz.func240, Tryz.ntmps240
  go_wp2_with fail
  go_ret
  exact ⟨rfl, Below.refl _ _⟩
theorem set_one (w : World) (b o : Nat) (v : Value) : w.setCells b o [v] = w.setCell ⟨b, o, none⟩ v := rfl
set_option maxRecDepth 100000 in
set_option maxHeartbeats 2000000 in
theorem fillX : FillC zX 96 := by
  intro pg po L n id X w hn hid hX hown hne h1 hL hI hD hDf hP
  have HF0 : Hid (FillAt zX w w L n id X 0) := FillAt.start hown
  have hpg : pg < w.heap.size := World.block_lt_of_cell? w ⟨pg, po, none⟩ hL
  obtain ⟨pp, cc, eL, _⟩ := row_slice hown
  subst eL
  have HL := hide hL; have HI := hide hI; have HD := hide hD; have HDF := hide hDf; have HPW := hide hP; have HX := hide hX; have HNE := hide hne; have H1 := hide h1
  clear hL hI hD hDf hP hown hX hne h1
  go_enter Tryz.func96, Tryz.ntmps96
  have l0 := unhide HL
  go_wp2_with fail
  clear l0
  go_loopw [2] (fun i wr => ∃ k : Nat, k ≤ n ∧ i = .int .i64 (k : Int) ∧ Hid (FillAt zX w wr (.slice pp n cc) n id X k)) (fun i _ => n - (intOf i).toNat)
  case atStart => exact ⟨0, by omega, rfl, unhide HF0⟩
  case round =>
    obtain ⟨k, hk, rfl, HS⟩ := hrel
    have hs := unhide HS
    have l1 : wr.cell? ⟨pg, po, none⟩ = some (.slice pp n cc) := (hs.gr.cell_far ⟨pg, po, none⟩ hpg (fun e => unhide HNE e.symm)).trans (unhide HL)
    have l2 : wr.cell? ⟨pg, po + 3, none⟩ = some (.int .i64 (id : Int)) := (hs.gr.cell_far ⟨pg, po + 3, none⟩ hpg (fun e => unhide HNE e.symm)).trans (unhide HI)
    clear HF0
    by_cases hlk : k < n
    · obtain ⟨gb, c', e⟩ := own_open hs.own (by omega)
      injection e with e1 _ e2
      subst e1 e2
      have hpr : pg < wr.heap.size := Nat.lt_of_lt_of_le hpg hs.gr.size
      have hI1 : (k : Int) < (n : Int) := by omega
      have hI0 : (0 : Int) ≤ (k : Int) := by omega
      have hmk := hide (markX id k (by omega) (by omega) wr.drew ((unhide HPW).keep (hs.gr.block 1 (unhide HPW).lt (fun e => unhide H1 e.symm))))
      have hpgb : pg ≠ gb := fun e => unhide HNE (by rw [e]; rfl)
      have HST : Hid (∀ w2, Below wr.heap.size wr w2 → (∃ u, w2.cell? ⟨gb, k, none⟩ = some u) ∧ w2.frozen? ⟨gb, k, none⟩ = false ∧ FillAt zX w (w2.setCell ⟨gb, k, none⟩ (cvX (mkX id k))) (.slice (some ⟨gb, 0, none⟩) n cc) n id X (k + 1)) := fun w2 hb => by
        obtain ⟨i1, i2⟩ := own_there (K := kX) kX_ok (hs.below hb).own hlk 0 (by decide)
        have i1 : (w2.cell? ⟨gb, k, none⟩).isSome = true := by simpa [kX] using i1
        have i2 : w2.frozen? ⟨gb, k, none⟩ = false := by simpa [kX] using i2
        have h := (hs.below hb).step kX_ok (unhide HX) hlk
        have e : (k : Nat) * zX.K.s = k := Nat.mul_one k
        rw [e] at h
        exact ⟨Option.isSome_iff_exists.1 i1, i2, h⟩
      clear hs
      obtain ⟨vm, hvm⟩ : ∃ vm, vm = mkX id k := ⟨_, rfl⟩
      unfold cvX at hmk HST
      rw [← hvm] at hmk HST
      obtain ⟨tm, htm⟩ : ∃ tm, tm = vm.txt := ⟨_, rfl⟩
      rw [← htm] at hmk HST
      clear hvm htm
      go_wp2_with fail
      refine wp_region_last (n := 12) (S := fun W => W.cell? ⟨pg, po, none⟩ = some (.slice (some ⟨gb, 0, none⟩) n cc) ∧ W.cell? ⟨pg, po + 3, none⟩ = some (.int .i64 (id : Int))) (by kernel_rfl) (by exact ⟨l1, l2⟩) (fun hHeld => ?_)
      refine tkW 0 ?_; refine tkW 1 ?_; refine tkW 2 ?_; refine tkS 3 ?_; refine tkW 4 ?_; refine tkW 5 ?_; refine tkW 6 ?_; refine tkW 7 ?_; refine tkS 8 ?_; refine tkW 9 ?_
      refine wpAnyL_one (i := 10) (by kernel_rfl) rfl (fun KK hK => ?_)
      go_simp
      refine (unhide hmk).mono ?_
      rintro e w2 ⟨rfl, hb⟩
      have B2 : Hid (Below wr.heap.size wr w2) := ⟨hb.os, hb.tape, hb.output, hb.size, hb.block⟩
      have q1 := keep1 (unhide B2) hpr l1
      have q2 := keep1 (unhide B2) hpr l2
      obtain ⟨⟨u3, hu3⟩, hf3, hst⟩ := unhide HST w2 (unhide B2)
      have HF3 := hide hst
      clear hst hb
      go_simp
      refine hK.out _ _ ⟨q1, q2⟩ (fun hHeld => ?_)
      clear hK KK
      refine tkW 11 ?_
      clear hHeld
      refine wpAnyL_past (i := 12) (by kernel_rfl) rfl (by kernel_rfl) (fun KK hK => ?_)
      go_simp
      refine hK.out _ _ ?_
      clear hK KK
      refine wpAnyL_done (by kernel_rfl) ?_
      go_wp2_with fail
      exact ⟨⟨k + 1, by omega, by go_num, unhide HF3⟩, by simp [intOf]; omega⟩
    · have hkn : k = n := by omega
      subst hkn
      have hI1 : ¬ (k : Int) < (k : Int) := by omega
      obtain ⟨vd, hvd⟩ := unhide HD
      have l3 : wr.cell? ⟨pg, po + 4, none⟩ = some vd := (hs.gr.cell_far ⟨pg, po + 4, none⟩ hpg (fun e => unhide HNE e.symm)).trans hvd
      have l4 : wr.frozen? ⟨pg, po + 4, none⟩ = false := (hs.gr.frozen_far ⟨pg, po + 4, none⟩ hpg (fun e => unhide HNE e.symm)).trans (unhide HDF)
      clear hs hvd
      go_wp2_with fail
      go_end0
      exact ⟨rfl, wr, unhide HS, rfl⟩
set_option maxRecDepth 100000 in
set_option maxHeartbeats 8000000 in
theorem growX : GrowC zX 97 := by
  intro pg po L n id w hn hid hown hne h1 hp1 hL hG hGf hI hP
  have hLat : ∀ b, L.ownBlock = some b → b < w.heap.size ∧ ∃ c, L = .slice (some ⟨b, 0, none⟩) n c := fun b hb => own_at hown hb
  have G0 : Hid (GrowAt zX w pg po L n id 0 L (w.setCell ⟨pg, po + 1, none⟩ L)) := GrowAt.begin kX_ok hne hown
  have hpg : pg < w.heap.size := World.block_lt_of_cell? w ⟨pg, po, none⟩ hL
  obtain ⟨pp, cc, eL, _⟩ := row_slice hown
  obtain ⟨u, hu⟩ := hG
  have HU := hide hu; have HID := hide hI; have HGF := hide hGf; have HPW := hide hP; have HNE := hide hne; have H1 := hide h1; have HLA := hide hLat
  subst eL
  clear hP hown hne h1 hLat
  go_enter Tryz.func97, Tryz.ntmps97
  go_wp2_with fail
  clear hL hI hu hGf
  go_loopw [2] (fun i wr => ∃ (j : Nat), j ≤ 64 ∧ i = .int .i64 (j : Int) ∧ Hid (∃ v : Value, GrowAt zX w pg po (.slice pp n cc) n id j v wr)) (fun i _ => 64 - (intOf i).toNat)
  case atStart => exact ⟨0, by omega, rfl, _, unhide G0⟩
  case round =>
    obtain ⟨j, hj, rfl, HS⟩ := hrel
    obtain ⟨v, hs⟩ := unhide HS
    clear G0
    by_cases hlt : j < 64
    · have l1 := hs.g (unhide HU)
      have l2 : wr.cell? ⟨pg, po + 3, none⟩ = some (.int .i64 (id : Int)) := (hs.cell (by omega)).trans (unhide HID)
      have l3 : wr.frozen? ⟨pg, po + 1, none⟩ = false := (hs.frozen (po + 1)).trans (unhide HGF)
      have hI1 : (j : Int) < 64 := by omega
      have hpr : pg < wr.heap.size := Nat.lt_of_lt_of_le hpg hs.size
      have hbe := hide (behind_any id hid)
      have hmk := hide (markX (id + 100000) j (by omega) (by omega) wr.drew ((unhide HPW).keep (hs.far 1 (unhide HPW).lt (fun e => hp1 e.symm) (unhide H1))))
      have hcast : ((id + 100000 : Nat) : Int) = (id : Int) + 100000 := by omega
      rw [hcast] at hmk
      have HSTEP : Hid (∀ w2 ty, Below wr.heap.size wr w2 → ∃ g c5 w5, (Builtin.append_ #[85, 85] ty #[v, .slice (some ⟨w2.heap.size, 0, none⟩) 1 1]).run Tryz.prog (w2.alloc (.cells #[.string (mkS (id + 100000) j)] 9)) = .ok (.slice (some ⟨g, 0, none⟩) (n + j + 1) c5) w5 ∧ w5.cell? ⟨pg, po + 1, none⟩ = some v ∧ w5.cell? ⟨pg, po + 3, none⟩ = some (.int .i64 (id : Int)) ∧ w5.frozen? ⟨pg, po + 1, none⟩ = false ∧
          GrowAt zX w pg po (.slice pp n cc) n id (j + 1) (.slice (some ⟨g, 0, none⟩) (n + j + 1) c5) (w5.setCell ⟨pg, po + 1, none⟩ (.slice (some ⟨g, 0, none⟩) (n + j + 1) c5))) := fun w2 ty hb => by
        have hba := bal hb (.cells #[.string (mkS (id + 100000) j)] 9)
        obtain ⟨g, c5, w5, r5, o5, g5⟩ := run_appK (K := kX) kX_ok ty (W := w2.alloc (.cells #[.string (mkS (id + 100000) j)] 9)) (M := [mkX (id + 100000) j]) (row_far hs.own fun q hq => hba.block q (row_lt hs.own hq).2) (Nat.zero_le _) ⟨w2.heap.size, 0, none⟩ 1 (by simp) (one_lies w2 (mkX (id + 100000) j) 9 _ rfl) (by simp; omega)
        have hvn := hs.ne (unhide HNE) hpg
        have hpW : pg < (w2.alloc (.cells #[.string (mkS (id + 100000) j)] 9)).heap.size := Nat.lt_of_lt_of_le hpr hba.size
        have hblk : w5.heap[pg]? = wr.heap[pg]? := by
          refine Eq.trans ?_ (hba.block pg hpr)
          rcases g5 with ⟨k1, k2⟩ | ⟨k1, k2⟩
          · exact k2.block pg hpW (fun e => hvn g k1 (by injection e with e; exact e.symm))
          · exact k2.block pg hpW (by simp)
        exact ⟨g, c5, w5, r5, (World.cell?_of_block hblk).trans l1, (World.cell?_of_block hblk).trans l2, (World.frozen?_of_block hblk).trans l3, hs.step kX_ok (unhide HNE) hpg (unhide HLA) hba o5 g5⟩
      clear hs hcast HS
      unfold cvX at hmk
      simp only [mkX] at hmk
      go_wp2_with fail
      refine wp_region_last (n := 16) (S := fun W => W.cell? ⟨pg, po + 1, none⟩ = some v ∧ W.cell? ⟨pg, po + 3, none⟩ = some (.int .i64 (id : Int))) (by kernel_rfl) (by first | (exact ⟨l1, l2⟩)) (fun hHeld => ?_)
      refine tkW 0 ?_
      refine tkW 1 ?_
      refine tkW 2 ?_
      refine tkW 3 ?_
      refine tkS 4 ?_
      refine tkW 5 ?_
      refine tkW 6 ?_
      refine tkW 7 ?_
      refine tkS 8 ?_
      refine tkW 10 ?_
      refine wpAnyL_one (i := 9) (by kernel_rfl) rfl (fun KK hK => ?_)
      go_simp
      go_wp2_with (first | (go_at_call 171; refine (unhide hbe _).mono ?_; rintro e w2 ⟨rfl, hw⟩; rw [hw]; clear hw w2))
      refine hK.out _ _ (by first | (exact ⟨l1, l2⟩)) (fun hHeld => ?_)
      clear hK KK
      refine wpAnyL_one (i := 11) (by kernel_rfl) rfl (fun KK hK => ?_)
      go_simp
      go_wp2_with (first | (go_at_call 170; refine (unhide hmk).mono ?_; rintro e w2 ⟨rfl, hb⟩; have B2 : Hid (Below wr.heap.size wr w2) := ⟨hb.os, hb.tape, hb.output, hb.size, hb.block⟩; have m1 := keep1 (unhide B2) hpr l1; have m2 := keep1 (unhide B2) hpr l2; have hz2 : wr.heap.size ≤ w2.heap.size := (unhide B2).size; clear hb))
      refine hK.out _ _ (by first | (exact ⟨m1, m2⟩)) (fun hHeld => ?_)
      clear hK KK
      refine wpAnyL_one (i := 12) (by kernel_rfl) rfl (fun KK hK => ?_)
      go_simp
      refine hK.out _ _ (by first | (exact ⟨keep1 (bal (Below.refl w2.heap.size w2) _) (by omega) m1, keep1 (bal (Below.refl w2.heap.size w2) _) (by omega) m2⟩)) (fun hHeld => ?_)
      clear hK KK
      refine wpAnyL_one (i := 13) (by kernel_rfl) rfl (fun KK hK => ?_)
      obtain ⟨g, c5, w5, r5, t1, t2, t3, hgo⟩ := unhide HSTEP w2 85 (unhide B2)
      refine step_append_run _ (by rfl) _ _ 85 (by rfl) v _ _ _ (by rfl) (by rfl) r5 ?_
      have HGO := hide hgo
      clear r5 hgo
      refine hK.out _ _ (by first | (exact ⟨t1, t2⟩)) (fun hHeld => ?_)
      clear hK KK
      refine tkW 14 ?_
      refine tkW 15 ?_
      refine wpAnyL_end (i := 16) (by kernel_rfl) rfl (by kernel_rfl) (by kernel_rfl) (fun KK hK => ?_)
      go_simp
      refine hK.out _ _ ?_
      clear hK KK
      go_wp2_with fail
      exact ⟨⟨j + 1, by omega, by go_num, _, unhide HGO⟩, by simp [intOf]; omega⟩
    · have hj64 : j = 64 := by omega
      subst hj64
      have hI1 : ¬ ((64 : Nat) : Int) < 64 := by omega
      have HV : Hid (∃ v : Value, GrowAt zX w pg po (.slice pp n cc) n id 64 v wr) := ⟨v, hs⟩
      clear hs
      go_wp2_with fail
      go_end0
      exact ⟨rfl, unhide HV⟩
end Go.Proofs.YtdeibifjiefapaaGreatDoor.Kg
