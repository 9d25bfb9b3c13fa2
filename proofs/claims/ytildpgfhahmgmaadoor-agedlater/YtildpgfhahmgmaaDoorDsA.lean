/- The laws' days (27): a list of numbers, whichever. -/
import Derived.Test.YtildpgfhahmgmaaDoorDlC
import Derived.Deep.DeepAppendWide
namespace Go.Proofs.YtildpgfhahmgmaaDoor
open Go Go.Shelf Go.ChangeShapes Go.WideShapes Go.ChangeAt Go.RowKit Go.Maps
set_option linter.unusedVariables false
theorem ints_flat (M : List Int) : kI.flat M = M.map (Value.int .i64 ·) := by
  induction M with
  | nil => rfl
  | cons x M ih =>
    have e : kI.flat (x :: M) = kI.enc x ++ kI.flat M := by simp [Kd.flat]
    rw [e, ih]
    rfl
theorem own_made (w : World) (M : List Int) (h : M.length ≤ maxLen) : (w.alloc (.cells (M.map (Value.int .i64 ·)).toArray 3)).ownsRow w.heap.size 3 1 (.slice (some ⟨w.heap.size, 0, none⟩) M.length M.length) M.length (kI.flat M) := by
  refine ⟨by rw [ints_flat]; simp, .inr ⟨w.heap.size, M.length, _, rfl, Nat.le_refl _, heap_new _ _, Nat.le_refl _, h, by simp, ?_⟩⟩
  rw [ints_flat, Nat.mul_one]
  exact List.take_of_length_le (by simp)
theorem made_lies (w : World) (M : List Int) (h : M.length ≤ maxLen) : Lies kI (w.alloc (.cells (M.map (Value.int .i64 ·)).toArray 3)) (some ⟨w.heap.size, 0, none⟩) M :=
  own_lies kI_ok rfl (own_made w M h)
/-- an append of numbers, however many came in -/
theorem run_app_wide {W : World} {B : Nat} {v : Value} {L M : List Int} {n : Nat} (ty : TypeId) (h : W.ownsRow B 3 1 v n (kI.flat L)) (hB : B ≤ W.heap.size) (pu : Option Addr) (cu : Nat) (hcu : pu = none → cu = 0) (hu : Lies kI W pu M) (hl : n + M.length ≤ 17592186050000) :
    ∃ p' c' w', (Builtin.append_ #[57, 57] ty #[v, .slice pu M.length cu]).run Tryd.prog W = .ok (.slice p' (n + M.length) c') w' ∧ w'.ownsRow B 3 1 (.slice p' (n + M.length) c') (n + M.length) (kI.flat (L ++ M)) ∧ Below B W w' := by
  obtain ⟨i, z, hi, hz, hsize, hby, hzs⟩ := kI_ok.info
  cases pu with
  | none =>
    have hR := hu.1 rfl
    subst hR
    rw [hcu rfl]
    have hr := run_append_owned_none (P := Tryd.prog) (w := W) B 57 ty 3 i 1 kI_ok.und hi v n (kI.flat L) h
    obtain ⟨p, c, e, _⟩ := row_slice h
    subst e
    exact ⟨p, c, W, hr, by rw [List.append_nil]; exact h, Below.refl _ _⟩
  | some ad =>
    obtain ⟨v', w', hr, ho, hg, hnil⟩ := run_append_own_wide (P := Tryd.prog) W B 57 ty 3 i z 1 8 kI_ok.und hi hz hsize hby hzs kI_ok.pos v n (kI.flat L) h ad M.length cu (kI.flat M) (flat_len kI_ok M) (news_of kI_ok hu) (flat_one kI_ok M) (by unfold maxLen; omega) (by omega) hB
    have ho2 : w'.ownsRow B 3 1 v' (n + M.length) (kI.flat (L ++ M)) := by rw [flat_append]; exact ho
    obtain ⟨p, c, e, _⟩ := row_slice ho2
    subst e
    refine ⟨p, c, w', hr, ho2, ⟨hg.os, hg.tape, hg.output, hg.size, fun q hq => hg.block q (Nat.lt_of_lt_of_le hq hB) (fun e => ?_)⟩⟩
    have := (row_block h e.symm).1
    omega
/-- a list of numbers that a call has made -/
def Ds (W wr : World) (v : Value) (n : Nat) : Prop := ∃ M : List Int, Rw kI W wr v n M
theorem Ds.more {W wr : World} {p : Option Addr} {c n : Nat} (h : Ds W wr (.slice p n c) n) (M : List Int) (hn : n + M.length ≤ 1000000) (ty : TypeId) :
    ∃ p' c' w', (Builtin.append_ #[57, 57] ty #[.slice p n c, .slice (some ⟨wr.heap.size, 0, none⟩) M.length M.length]).run Tryd.prog (wr.drew.alloc (.cells (M.map (Value.int .i64 ·)).toArray 3)) = .ok (.slice p' (n + M.length) c') w' ∧ Ds W w' (.slice p' (n + M.length) c') (n + M.length) ∧ Below W.heap.size W w' := by
  obtain ⟨L, hR⟩ := h
  have hd : Rw kI W wr.drew (.slice p n c) n L := ⟨hR.row, hR.bel.drew, hR.len⟩
  obtain ⟨p8, c8, w8, r8, o8, b8, _⟩ := run_app kI_ok ty (W := wr.drew.alloc (.cells (M.map (Value.int .i64 ·)).toArray 3)) (M := M) (B := W.heap.size) (hd.row.alloc _) (Nat.le_trans hd.bel.size (by simp)) (some ⟨wr.drew.heap.size, 0, none⟩) M.length (fun h => by cases h) (made_lies wr.drew M (by unfold maxLen; omega)) (by omega)
  have hb : Below W.heap.size W w8 := (hd.bel.alloc hd.bel.size _).trans b8
  exact ⟨p8, c8, w8, r8, ⟨L ++ M, o8, hb, by rw [List.length_append, hd.len]⟩, hb⟩
set_option maxRecDepth 100000 in
set_option maxHeartbeats 16000000 in
theorem days_any {W : World} {pc pa pm : Option Addr} {n m k cc ca cm : Nat} {C : List Cl} {A : List Al} {M : List Int} (hn : C.length = n) (hm : A.length = m) (hk : M.length = k) (hC : Lies kC W pc C) (hA : Lies kA W pa A) (hM : Lies kI W pm M) (hcm : pm = none → cm = 0) (hn1 : n ≤ 60) (hm1 : m ≤ 1000) (hk1 : k ≤ 17592186043904) (hcb : ∀ c ∈ C, (0 ≤ c.day ∧ c.day ≤ 1000000000) ∧ (0 ≤ c.due ∧ c.due ≤ 1000000000)) (hab : ∀ a ∈ A, 0 ≤ a.day ∧ a.day ≤ 1000000000) :
    Calls Tryd.prog 27 #[.slice pc n cc, .slice pa m ca, .slice pm k cm] W fun e w' => ∃ p c N D, e = .returned (.slice p N c) ∧ D.length = N ∧ N ≤ 17592186050000 ∧ Lies kI w' p D ∧ Below W.heap.size W w' ∧ ∀ a, p = some a → W.heap.size ≤ a.block := by
  have HN := hide hn; have HM := hide hm; have HC := hide hC; have HA := hide hA; have HCB := hide hcb; have HAB := hide hab; have HK := hide hk; have HMM := hide hM; have HCM := hide hcm
  have hk2 : k ≤ 9223372036854775807 := by omega
  have H0 : Hid (Ds W (W.alloc (.cells #[.int .i64 1, .int .i64 3652059] 3)) (.slice (some ⟨W.heap.size, 0, none⟩) 2 2) 2) := ⟨[1, 3652059], own_made W [1, 3652059] (by unfold maxLen; simp), (Below.refl _ _).alloc (Nat.le_refl _) _, rfl⟩
  clear hC hA hM hcm hcb hab hn hm hk
  go_enter Tryd.func27, Tryd.ntmps27
  go_wp2_with fail
  go_loopw [7, 8] (fun v7 v8 wr => ∃ (i : Nat), v8 = .int .i64 i ∧ i ≤ n ∧ (∃ p' c', v7 = .slice p' (2 + 7 * i) c') ∧ Hid (Ds W wr v7 (2 + 7 * i))) (fun _ v8 _ => n - (intOf v8).toNat)
  case atStart => exact ⟨0, rfl, by omega, ⟨_, _, rfl⟩, unhide H0⟩
  case round =>
    obtain ⟨i, rfl, hi, ⟨p7, c7, rfl⟩, hrel⟩ := hrel
    by_cases hlt : i < n
    · have hiC : i < C.length := by rw [unhide HN]; exact hlt
      obtain ⟨b, off, e, hbl, hr⟩ := (unhide HC).2 i hiC
      obtain ⟨c, hcd⟩ : ∃ c, c = C[i] := ⟨_, rfl⟩
      rw [← hcd] at hr
      obtain ⟨⟨h1, h2⟩, h3, h4⟩ := unhide HCB c (by rw [hcd]; exact List.getElem_mem hiC)
      obtain ⟨D, hD⟩ : ∃ D, D = c.day := ⟨_, rfl⟩
      obtain ⟨U, hU⟩ : ∃ U, U = c.due := ⟨_, rfl⟩
      have hbw : Below W.heap.size W wr := by obtain ⟨_, hR⟩ := unhide hrel; exact hR.bel
      have k2 : wr.cell? ⟨b, off + i * 5 + 2, none⟩ = some (.int .i64 D) := by rw [hD]; exact (hbw.cell (p := ⟨b, off + i * 5 + 2, none⟩) hbl).trans (hr 2 _ rfl)
      have k3 : wr.cell? ⟨b, off + i * 5 + 3, none⟩ = some (.int .i64 U) := by rw [hU]; exact (hbw.cell (p := ⟨b, off + i * 5 + 3, none⟩) hbl).trans (hr 3 _ rfl)
      rw [← hD] at h1 h2
      rw [← hU] at h3 h4
      obtain ⟨p8, c8, w8, r8, o8, b8⟩ := (unhide hrel).more [D - 1, D, U, U + 1, U + 30, U + 31, U + 91] (by simp; omega) 57
      have e7 : 2 + 7 * i + [D - 1, D, U, U + 1, U + 30, U + 31, U + 91].length = 2 + 7 * (i + 1) := by simp; omega
      rw [e7] at r8 o8
      have HREL := hide o8
      have a2 : w8.cell? ⟨b, off + i * 5 + 2, none⟩ = some (.int .i64 D) := by rw [hD]; exact (b8.cell (p := ⟨b, off + i * 5 + 2, none⟩) hbl).trans (hr 2 _ rfl)
      have a3 : w8.cell? ⟨b, off + i * 5 + 3, none⟩ = some (.int .i64 U) := by rw [hU]; exact (b8.cell (p := ⟨b, off + i * 5 + 3, none⟩) hbl).trans (hr 3 _ rfl)
      have hbs : b < wr.heap.size := by have := hbw.size; omega
      have HBS := hide hbs
      have hw1 : IntKind.i64.wrap (D - 1) = D - 1 := by rw [IntKind.wrap_i64]; omega
      have hw2 : IntKind.i64.wrap (U + 1) = U + 1 := by rw [IntKind.wrap_i64]; omega
      have hw3 : IntKind.i64.wrap (U + 30) = U + 30 := by rw [IntKind.wrap_i64]; omega
      have hw4 : IntKind.i64.wrap (U + 31) = U + 31 := by rw [IntKind.wrap_i64]; omega
      have hw5 : IntKind.i64.wrap (U + 91) = U + 91 := by rw [IntKind.wrap_i64]; omega
      subst e
      clear hr hcd hiC hD hU hbw hbl o8 b8 e7 hrel hbs
      go_upto_region 5 with fail
      refine wp_region_last (n := 44) (S := fun W' => W'.cell? ⟨b, off + i * 5 + 2, none⟩ = some (.int .i64 D) ∧ W'.cell? ⟨b, off + i * 5 + 3, none⟩ = some (.int .i64 U)) (by kernel_rfl) (by exact ⟨k2, k3⟩) (fun hHeld => ?_)
      refine tkW 0 ?_; refine tkW 1 ?_; refine tkW 2 ?_; refine tkW 3 ?_; refine tkW 4 ?_; refine tkN 5 ?_
      refine tkW 6 ?_; refine tkW 7 ?_; refine tkW 8 ?_; refine tkW 9 ?_; refine tkW 10 ?_; refine tkN 11 ?_
      refine tkW 12 ?_; refine tkW 13 ?_; refine tkW 14 ?_; refine tkW 15 ?_; refine tkN 16 ?_; refine tkW 17 ?_
      refine tkW 18 ?_; refine tkW 19 ?_; refine tkW 20 ?_; refine tkN 21 ?_; refine tkW 22 ?_; refine tkW 23 ?_
      refine tkW 24 ?_; refine tkW 25 ?_; refine tkW 26 ?_; refine tkN 27 ?_; refine tkW 28 ?_; refine tkW 29 ?_
      refine tkW 30 ?_; refine tkW 31 ?_; refine tkW 32 ?_; refine tkN 33 ?_; refine tkW 34 ?_; refine tkW 35 ?_
      refine tkW 36 ?_; refine tkW 37 ?_; refine tkW 38 ?_; refine tkN 39 ?_; refine tkW 40 ?_
      refine wpAnyL_one (i := 41) (by kernel_rfl) rfl (fun KK hK => ?_)
      go_simp
      refine hK.out _ _ (by exact ⟨(World.cell?_alloc_lt _ _ _ (unhide HBS)).trans k2, (World.cell?_alloc_lt _ _ _ (unhide HBS)).trans k3⟩) (fun hHeld => ?_)
      clear hK KK
      refine wpAnyL_one (i := 42) (by kernel_rfl) rfl (fun KK hK => ?_)
      refine step_append_run _ (by rfl) _ _ _ (by rfl) _ _ _ _ (by rfl) (by rfl) r8 ?_
      refine hK.out _ _ (by exact ⟨a2, a3⟩) (fun hHeld => ?_)
      clear hK KK
      refine wpAnyL_one (i := 43) (by kernel_rfl) rfl (fun KK hK => ?_)
      go_simp
      refine hK.out _ _ (by exact ⟨a2, a3⟩) (fun hHeld => ?_)
      clear hK KK
      refine wpAnyL_done (by kernel_rfl) ?_
      go_wp2_with fail
      exact ⟨⟨i + 1, by simp, by omega, ⟨_, _, rfl⟩, unhide HREL⟩, by simp [intOf]; omega⟩
    · have hin : i = n := by omega
      subst hin
      have HR0 := hide (unhide hrel)
      clear hrel H0
      go_wp2_with fail
      go_loopw [7, 9] (fun v7 v9 wr => ∃ (j : Nat), v9 = .int .i64 j ∧ j ≤ m ∧ (∃ p' c', v7 = .slice p' (2 + 7 * i + 2 * j) c') ∧ Hid (Ds W wr v7 (2 + 7 * i + 2 * j))) (fun _ v9 _ => m - (intOf v9).toNat)
      case atStart => exact ⟨0, rfl, by omega, ⟨_, _, rfl⟩, unhide HR0⟩
      case round =>
        obtain ⟨j, rfl, hj, ⟨p7, c7, rfl⟩, hrel⟩ := hrel
        by_cases hlt2 : j < m
        · have hjA : j < A.length := by rw [unhide HM]; exact hlt2
          obtain ⟨b, off, e, hbl, hr⟩ := (unhide HA).2 j hjA
          obtain ⟨x, hxd⟩ : ∃ x, x = A[j] := ⟨_, rfl⟩
          rw [← hxd] at hr
          obtain ⟨h1, h2⟩ := unhide HAB x (by rw [hxd]; exact List.getElem_mem hjA)
          obtain ⟨D, hD⟩ : ∃ D, D = x.day := ⟨_, rfl⟩
          have hbw : Below W.heap.size W wr := by obtain ⟨_, hR⟩ := unhide hrel; exact hR.bel
          have k2 : wr.cell? ⟨b, off + j * 4 + 2, none⟩ = some (.int .i64 D) := by rw [hD]; exact (hbw.cell (p := ⟨b, off + j * 4 + 2, none⟩) hbl).trans (hr 2 _ rfl)
          rw [← hD] at h1 h2
          obtain ⟨p8, c8, w8, r8, o8, b8⟩ := (unhide hrel).more [D - 1, D] (by simp; omega) 57
          have e7 : 2 + 7 * i + 2 * j + [D - 1, D].length = 2 + 7 * i + 2 * (j + 1) := by simp; omega
          rw [e7] at r8 o8
          have HREL := hide o8
          have a2 : w8.cell? ⟨b, off + j * 4 + 2, none⟩ = some (.int .i64 D) := by rw [hD]; exact (b8.cell (p := ⟨b, off + j * 4 + 2, none⟩) hbl).trans (hr 2 _ rfl)
          have hbs : b < wr.heap.size := by have := hbw.size; omega
          have HBS := hide hbs
          have hw1 : IntKind.i64.wrap (D - 1) = D - 1 := by rw [IntKind.wrap_i64]; omega
          subst e
          clear hr hxd hjA hD hbw hbl o8 b8 e7 hrel hbs
          go_upto_region 9 with fail
          refine wp_region_last (n := 15) (S := fun W' => W'.cell? ⟨b, off + j * 4 + 2, none⟩ = some (.int .i64 D)) (by kernel_rfl) (by exact k2) (fun hHeld => ?_)
          refine tkW 0 ?_; refine tkW 1 ?_; refine tkW 2 ?_; refine tkW 3 ?_; refine tkW 4 ?_; refine tkN 5 ?_
          refine tkW 6 ?_; refine tkW 7 ?_; refine tkW 8 ?_; refine tkW 9 ?_; refine tkW 10 ?_; refine tkN 11 ?_
          refine wpAnyL_one (i := 12) (by kernel_rfl) rfl (fun KK hK => ?_)
          go_simp
          refine hK.out _ _ (by exact (World.cell?_alloc_lt _ _ _ (unhide HBS)).trans k2) (fun hHeld => ?_)
          clear hK KK
          refine wpAnyL_one (i := 13) (by kernel_rfl) rfl (fun KK hK => ?_)
          refine step_append_run _ (by rfl) _ _ _ (by rfl) _ _ _ _ (by rfl) (by rfl) r8 ?_
          refine hK.out _ _ (by exact a2) (fun hHeld => ?_)
          clear hK KK
          refine wpAnyL_one (i := 14) (by kernel_rfl) rfl (fun KK hK => ?_)
          go_simp
          refine hK.out _ _ (by exact a2) (fun hHeld => ?_)
          clear hK KK
          refine wpAnyL_done (by kernel_rfl) ?_
          go_wp2_with fail
          exact ⟨⟨j + 1, by simp, by omega, ⟨_, _, rfl⟩, unhide HREL⟩, by simp [intOf]; omega⟩
        · have hjm : j = m := by omega
          subst hjm
          obtain ⟨L, hR⟩ := unhide hrel
          obtain ⟨p8, c8, w8, r8, o8, b8⟩ := run_app_wide 57 hR.row hR.bel.size pm cm (unhide HCM) ((unhide HMM).below hR.bel) (by rw [unhide HK]; omega)
          rw [unhide HK] at r8 o8
          have hnew : ∀ a, p8 = some a → W.heap.size ≤ a.block := fun a e => by
            obtain ⟨q, c, e1, _, h2⟩ := row_slice o8
            cases e1
            exact (h2 a e).2.2.1
          have HF : Hid (∃ D : List Int, D.length = 2 + 7 * i + 2 * j + k ∧ Lies kI w8 p8 D ∧ Below W.heap.size W w8 ∧ ∀ a, p8 = some a → W.heap.size ≤ a.block) := ⟨L ++ M, by rw [List.length_append, hR.len, unhide HK], own_lies kI_ok (by rw [List.length_append, hR.len, unhide HK]) o8, hR.bel.trans b8, hnew⟩
          have HR8 := hide r8
          clear hR r8 o8 b8 hrel hnew
          go_wp2_with (at_builtin; refine wpList_append_run rfl _ _ 57 rfl _ _ _ _ rfl rfl (unhide HR8) ?_)
          go_ret
          obtain ⟨DD, hd1, hd2, hd3, hd4⟩ := unhide HF
          exact ⟨_, _, _, DD, rfl, hd1, by omega, hd2, hd3, hd4⟩
end Go.Proofs.YtildpgfhahmgmaaDoor
