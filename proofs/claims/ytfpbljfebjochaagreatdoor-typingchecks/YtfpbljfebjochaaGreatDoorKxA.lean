/- The keeper's pages of numbers: mark (69), same (149), fill (15), grow (16). By tools/kint.py. -/
import Derived.Test.YtfpbljfebjochaaGreatDoorKgC
import Derived.Deep.RegionLaw
namespace Go.Proofs.YtfpbljfebjochaaGreatDoor.Kg
open Go Go.Shelf Go.ChangeShapes Go.WideShapes Go.ChangeAt Go.RowKit Go.Maps
set_option linter.unusedVariables false
set_option linter.unusedSimpArgs false
def cvx (x : Int) : Value := .int .i64 x
def mkx (id k : Nat) : Int := -1000000 * (((id % 1000 : Nat) : Int) + 1) - (k : Int)
def zx : Kk Int := ⟨kI, mkx, 68, 32, 2⟩
theorem zx_ok : KkOK zx := by
  refine ⟨kI_ok, Tryz.underlying32, ?_, by decide⟩
  have h : (Tryz.prog.info? 68).map (fun i => (i.zero.map (fun z => z.cells.size), i.size, i.bytes)) = some (some 5, 5, 88) := by kernel_rfl
  obtain ⟨i, hi, hzz⟩ := Option.map_eq_some_iff.1 h
  simp only [Prod.mk.injEq] at hzz
  obtain ⟨z, hz, hs⟩ := Option.map_eq_some_iff.1 hzz.1
  exact ⟨i, z, hi, hz, hs, hzz.2.1, hzz.2.2⟩
theorem markx (id k : Nat) (hid : id < 1000000) (hk : k < 100000000000000) (w : World) : Calls Tryz.prog 69 #[.int .i64 (id : Int), .int .i64 (k : Int)] w fun e w' => e = .returned (cvx (mkx id k)) ∧ w' = w := by
  unfold cvx mkx
  obtain ⟨r, hr⟩ : ∃ r, r = id % 1000 := ⟨_, rfl⟩
  have h1 : Int.tmod (id : Int) 1000 = (r : Int) := by rw [Int.tmod_eq_emod_of_nonneg (by omega), hr]; omega
  have hr2 : r < 1000 := by omega
  have s1 : IntKind.i64.wrap (Int.tmod (id : Int) 1000) = (r : Int) := by rw [h1, IntKind.wrap_i64]; omega
  have s2 : IntKind.i64.wrap ((r : Int) + 1) = (r : Int) + 1 := by rw [IntKind.wrap_i64]; omega
  have s3 : IntKind.i64.wrap (-1000000 * ((r : Int) + 1)) = -1000000 * ((r : Int) + 1) := by rw [IntKind.wrap_i64]; omega
  have s4 : IntKind.i64.wrap (-1000000 * ((r : Int) + 1) - (k : Int)) = -1000000 * ((r : Int) + 1) - (k : Int) := by rw [IntKind.wrap_i64]; omega
  rw [← hr]
  clear hr hr2
  go_enter Tryz.func69, Tryz.ntmps69
  go_wp2_with fail
  go_ret
  exact ⟨rfl, rfl⟩
theorem eqkx (x : Int) (w : World) : Calls Tryz.prog 149 #[cvx x, cvx x] w fun e w' => e = .returned (.bool true) ∧ w' = w := by
  unfold cvx
  go_enter Tryz.func149, Tryz.ntmps149
  go_wp2_with fail
  go_ret
  exact ⟨rfl, rfl⟩
theorem step_append_run {P : Program} {ops : Array Oper} {o : Oper} {a : Act} {K : Act → World → Prop} {Q : Exit → Act → World → Prop} {E : Prop} (w : World) (hgd : o.guard = none) (s x : Operand) (t : TypeId)
    (ho : o.op = .call { callee := .builtin .append, args := #[s, x], argTypes := #[t, t] }) (v u v' : Value) (w' : World) (hs : a.eval s = v) (hx : a.eval x = u) (hr : (Builtin.append_ #[t, t] o.type #[v, u]).run P w = .ok v' w')
    (h : K (a.put o.dst v') w') : if Region.wanted o (yielded ops a.tmps) = true then Oper.wp P o a w K Q else E := by
  have hw : Region.wanted o (yielded ops a.tmps) = true := by simp [Region.wanted, hgd]
  rw [if_pos hw]
  unfold Oper.wp execOp
  simp only [ho, resolve, invoke, builtin, Sem.run_bind, Sem.run_pure, Result.andThen_ok, List.map_toArray, List.map_cons, List.map_nil, hs, hx, hr]
  exact h
theorem set_one (w : World) (b o : Nat) (v : Value) : w.setCells b o [v] = w.setCell ⟨b, o, none⟩ v := rfl
set_option maxRecDepth 100000 in
set_option maxHeartbeats 2000000 in
theorem fillx : FillC zx 15 := by
  intro pg po L n id X w hn hid hX hown hne h1 hL hI hD hDf hP
  have HF0 : Hid (FillAt zx w w L n id X 0) := FillAt.start hown
  have hpg : pg < w.heap.size := World.block_lt_of_cell? w ⟨pg, po, none⟩ hL
  obtain ⟨pp, cc, eL, _⟩ := row_slice hown
  subst eL
  have HL := hide hL; have HI := hide hI; have HD := hide hD; have HDF := hide hDf; have HPW := hide hP; have HX := hide hX; have HNE := hide hne; have H1 := hide h1
  clear hL hI hD hDf hP hown hX hne h1
  go_enter Tryz.func15, Tryz.ntmps15
  have l0 := unhide HL
  go_wp2_with fail
  clear l0
  go_loopw [2] (fun i wr => ∃ k : Nat, k ≤ n ∧ i = .int .i64 (k : Int) ∧ Hid (FillAt zx w wr (.slice pp n cc) n id X k)) (fun i _ => n - (intOf i).toNat)
  case atStart => exact ⟨0, by omega, rfl, unhide HF0⟩
  case round =>
    obtain ⟨k, hk, rfl, HS⟩ := hrel
    have hs := unhide HS
    have l1 : wr.cell? ⟨pg, po, none⟩ = some (.slice pp n cc) := (hs.gr.cell_far ⟨pg, po, none⟩ hpg (fun e => unhide HNE e.symm)).trans (unhide HL)
    have l2 : wr.cell? ⟨pg, po + 3, none⟩ = some (.int .i64 (id : Int)) := (hs.gr.cell_far ⟨pg, po + 3, none⟩ hpg (fun e => unhide HNE e.symm)).trans (unhide HI)
    clear HF0
    by_cases hlk : k < n
    · obtain ⟨gb, c', e⟩ := own_open hs.own (by omega)
      injection e with e1 _ e2
      subst e1 e2
      have hpr : pg < wr.heap.size := Nat.lt_of_lt_of_le hpg hs.gr.size
      have hI1 : (k : Int) < (n : Int) := by omega
      have hI0 : (0 : Int) ≤ (k : Int) := by omega
      have hmk := hide (markx id k (by omega) (by omega) wr.drew)
      obtain ⟨i1, i2⟩ := own_there (K := kI) kI_ok hs.own hlk 0 (by decide)
      have i1 : (wr.cell? ⟨gb, k, none⟩).isSome = true := by simpa [kI] using i1
      have i2 : wr.frozen? ⟨gb, k, none⟩ = false := by simpa [kI] using i2
      obtain ⟨u, hu⟩ := Option.isSome_iff_exists.1 i1
      have hpgb : pg ≠ gb := fun e => unhide HNE (by rw [e]; rfl)
      obtain ⟨Y, hY⟩ : ∃ Y, Y = wr.drew := ⟨_, rfl⟩
      have y1 : Y.cell? ⟨pg, po, none⟩ = some (.slice (some ⟨gb, 0, none⟩) n cc) := by rw [hY]; exact l1
      have y2 : Y.cell? ⟨pg, po + 3, none⟩ = some (.int .i64 (id : Int)) := by rw [hY]; exact l2
      have y3 : Y.cell? ⟨gb, k, none⟩ = some u := by rw [hY]; exact hu
      have y4 : Y.frozen? ⟨gb, k, none⟩ = false := by rw [hY]; exact i2
      have HST : Hid (FillAt zx w (Y.setCell ⟨gb, k, none⟩ (cvx (mkx id k))) (.slice (some ⟨gb, 0, none⟩) n cc) n id X (k + 1)) := by
        have hb : Below wr.heap.size wr Y := by rw [hY]; exact (Below.refl _ wr).drew
        have h := (hs.below hb).step kI_ok (unhide HX) hlk
        have e : (k : Nat) * zx.K.s = k := Nat.mul_one k
        rw [e] at h
        exact h
      rw [← hY] at hmk
      obtain ⟨z, hz⟩ : ∃ z, z = mkx id k := ⟨_, rfl⟩
      unfold cvx at hmk HST
      rw [← hz] at hmk HST
      clear hs hz i1 i2 hu
      go_wp2_with fail
      clear l1 l2
      refine wp_region_last (n := 12) (S := fun W => W = Y) (by kernel_rfl) hY.symm (fun hHeld => ?_)
      rw [← hY] at hHeld ⊢
      clear hY
      refine tkW 0 ?_; refine tkW 1 ?_; refine tkW 2 ?_; refine tkS 3 ?_; refine tkW 4 ?_; refine tkW 5 ?_; refine tkW 6 ?_; refine tkW 7 ?_; refine tkS 8 ?_; refine tkW 9 ?_
      refine wpAnyL_one (i := 10) (by kernel_rfl) rfl (fun KK hK => ?_)
      go_simp
      refine (unhide hmk).mono ?_
      rintro e w2 ⟨rfl, rfl⟩
      go_simp
      refine hK.out _ _ rfl (fun hHeld => ?_)
      clear hK KK
      refine tkW 11 ?_
      clear hHeld
      refine wpAnyL_past (i := 12) (by kernel_rfl) rfl (by kernel_rfl) (fun KK hK => ?_)
      go_simp
      refine hK.out _ _ ?_
      clear hK KK
      refine wpAnyL_done (by kernel_rfl) ?_
      go_wp2_with fail
      exact ⟨⟨k + 1, by omega, by go_num, unhide HST⟩, by simp [intOf]; omega⟩
    · have hkn : k = n := by omega
      subst hkn
      have hI1 : ¬ (k : Int) < (k : Int) := by omega
      obtain ⟨vd, hvd⟩ := unhide HD
      have l3 : wr.cell? ⟨pg, po + 4, none⟩ = some vd := (hs.gr.cell_far ⟨pg, po + 4, none⟩ hpg (fun e => unhide HNE e.symm)).trans hvd
      have l4 : wr.frozen? ⟨pg, po + 4, none⟩ = false := (hs.gr.frozen_far ⟨pg, po + 4, none⟩ hpg (fun e => unhide HNE e.symm)).trans (unhide HDF)
      clear hs hvd
      go_wp2_with fail
      go_end0
      exact ⟨rfl, wr, unhide HS, rfl⟩
set_option maxRecDepth 100000 in
set_option maxHeartbeats 8000000 in
theorem growx : GrowC zx 16 := by
  intro pg po L n id w hn hid hown hne h1 hp1 hL hG hGf hI hP
  have hLat : ∀ b, L.ownBlock = some b → b < w.heap.size ∧ ∃ c, L = .slice (some ⟨b, 0, none⟩) n c := fun b hb => own_at hown hb
  have G0 : Hid (GrowAt zx w pg po L n id 0 L (w.setCell ⟨pg, po + 1, none⟩ L)) := GrowAt.begin kI_ok hne hown
  have hpg : pg < w.heap.size := World.block_lt_of_cell? w ⟨pg, po, none⟩ hL
  obtain ⟨pp, cc, eL, _⟩ := row_slice hown
  obtain ⟨u, hu⟩ := hG
  have HU := hide hu; have HID := hide hI; have HGF := hide hGf; have HPW := hide hP; have HNE := hide hne; have H1 := hide h1; have HLA := hide hLat
  subst eL
  clear hP hown hne h1 hLat
  go_enter Tryz.func16, Tryz.ntmps16
  go_wp2_with fail
  clear hL hI hu hGf
  go_loopw [2] (fun i wr => ∃ (j : Nat), j ≤ 64 ∧ i = .int .i64 (j : Int) ∧ Hid (∃ v : Value, GrowAt zx w pg po (.slice pp n cc) n id j v wr)) (fun i _ => 64 - (intOf i).toNat)
  case atStart => exact ⟨0, by omega, rfl, _, unhide G0⟩
  case round =>
    obtain ⟨j, hj, rfl, HS⟩ := hrel
    obtain ⟨v, hs⟩ := unhide HS
    clear G0
    by_cases hlt : j < 64
    · have l1 := hs.g (unhide HU)
      have l2 : wr.cell? ⟨pg, po + 3, none⟩ = some (.int .i64 (id : Int)) := (hs.cell (by omega)).trans (unhide HID)
      have l3 : wr.frozen? ⟨pg, po + 1, none⟩ = false := (hs.frozen (po + 1)).trans (unhide HGF)
      have hI1 : (j : Int) < 64 := by omega
      have hpr : pg < wr.heap.size := Nat.lt_of_lt_of_le hpg hs.size
      have hbe := hide (behind_any id hid)
      have hmk := hide (markx (id + 100000) j (by omega) (by omega) wr.drew)
      have hcast : ((id + 100000 : Nat) : Int) = (id : Int) + 100000 := by omega
      rw [hcast] at hmk
      have HSTEP : Hid (∀ w2 ty, Below wr.heap.size wr w2 → ∃ g c5 w5, (Builtin.append_ #[23, 23] ty #[v, .slice (some ⟨w2.heap.size, 0, none⟩) 1 1]).run Tryz.prog (w2.alloc (.cells #[.int .i64 (mkx (id + 100000) j)] 3)) = .ok (.slice (some ⟨g, 0, none⟩) (n + j + 1) c5) w5 ∧ w5.cell? ⟨pg, po + 1, none⟩ = some v ∧ w5.cell? ⟨pg, po + 3, none⟩ = some (.int .i64 (id : Int)) ∧ w5.frozen? ⟨pg, po + 1, none⟩ = false ∧
          GrowAt zx w pg po (.slice pp n cc) n id (j + 1) (.slice (some ⟨g, 0, none⟩) (n + j + 1) c5) (w5.setCell ⟨pg, po + 1, none⟩ (.slice (some ⟨g, 0, none⟩) (n + j + 1) c5))) := fun w2 ty hb => by
        have hba := bal hb (.cells #[.int .i64 (mkx (id + 100000) j)] 3)
        obtain ⟨g, c5, w5, r5, o5, g5⟩ := run_appK (K := kI) kI_ok ty (W := w2.alloc (.cells #[.int .i64 (mkx (id + 100000) j)] 3)) (M := [mkx (id + 100000) j]) (row_far hs.own fun q hq => hba.block q (row_lt hs.own hq).2) (Nat.zero_le _) ⟨w2.heap.size, 0, none⟩ 1 (by simp) (one_lies w2 (mkx (id + 100000) j) 3 _ rfl) (by simp; omega) (by simp [kI]; omega)
        have hvn := hs.ne (unhide HNE) hpg
        have hpW : pg < (w2.alloc (.cells #[.int .i64 (mkx (id + 100000) j)] 3)).heap.size := Nat.lt_of_lt_of_le hpr hba.size
        have hblk : w5.heap[pg]? = wr.heap[pg]? := by
          refine Eq.trans ?_ (hba.block pg hpr)
          rcases g5 with ⟨k1, k2⟩ | ⟨k1, k2⟩
          · exact k2.block pg hpW (fun e => hvn g k1 (by injection e with e; exact e.symm))
          · exact k2.block pg hpW (by simp)
        exact ⟨g, c5, w5, r5, (World.cell?_of_block hblk).trans l1, (World.cell?_of_block hblk).trans l2, (World.frozen?_of_block hblk).trans l3, hs.step kI_ok (unhide HNE) hpg (unhide HLA) hba o5 g5⟩
      clear hs hcast HS
      unfold cvx at hmk
      go_wp2_with fail
      refine wp_region_last (n := 16) (S := fun W => W.cell? ⟨pg, po + 1, none⟩ = some v ∧ W.cell? ⟨pg, po + 3, none⟩ = some (.int .i64 (id : Int))) (by kernel_rfl) (by first | (exact ⟨l1, l2⟩)) (fun hHeld => ?_)
      refine tkW 0 ?_
      refine tkW 1 ?_
      refine tkW 2 ?_
      refine tkW 3 ?_
      refine tkS 4 ?_
      refine tkW 5 ?_
      refine tkW 6 ?_
      refine tkW 7 ?_
      refine tkS 8 ?_
      refine tkW 10 ?_
      refine wpAnyL_one (i := 9) (by kernel_rfl) rfl (fun KK hK => ?_)
      go_simp
      go_wp2_with (first | (go_at_call 70; refine (unhide hbe _).mono ?_; rintro e w2 ⟨rfl, hw⟩; rw [hw]; clear hw w2))
      refine hK.out _ _ (by first | (exact ⟨l1, l2⟩)) (fun hHeld => ?_)
      clear hK KK
      refine wpAnyL_one (i := 11) (by kernel_rfl) rfl (fun KK hK => ?_)
      go_simp
      go_wp2_with (first | (go_at_call 69; refine (unhide hmk).mono ?_; rintro e w2 ⟨rfl, hw2⟩; have B2 : Hid (Below wr.heap.size wr w2) := (by rw [hw2]; exact (Below.refl _ wr).drew); have m1 := keep1 (unhide B2) hpr l1; have m2 := keep1 (unhide B2) hpr l2; have hz2 : wr.heap.size ≤ w2.heap.size := (unhide B2).size; clear hw2))
      refine hK.out _ _ (by first | (exact ⟨m1, m2⟩)) (fun hHeld => ?_)
      clear hK KK
      refine wpAnyL_one (i := 12) (by kernel_rfl) rfl (fun KK hK => ?_)
      go_simp
      refine hK.out _ _ (by first | (exact ⟨keep1 (bal (Below.refl w2.heap.size w2) _) (by omega) m1, keep1 (bal (Below.refl w2.heap.size w2) _) (by omega) m2⟩)) (fun hHeld => ?_)
      clear hK KK
      refine wpAnyL_one (i := 13) (by kernel_rfl) rfl (fun KK hK => ?_)
      obtain ⟨g, c5, w5, r5, t1, t2, t3, hgo⟩ := unhide HSTEP w2 23 (unhide B2)
      refine step_append_run _ (by rfl) _ _ 23 (by rfl) v _ _ _ (by rfl) (by rfl) r5 ?_
      have HGO := hide hgo
      clear r5 hgo
      refine hK.out _ _ (by first | (exact ⟨t1, t2⟩)) (fun hHeld => ?_)
      clear hK KK
      refine tkW 14 ?_
      refine tkW 15 ?_
      refine wpAnyL_end (i := 16) (by kernel_rfl) rfl (by kernel_rfl) (by kernel_rfl) (fun KK hK => ?_)
      go_simp
      refine hK.out _ _ ?_
      clear hK KK
      go_wp2_with fail
      exact ⟨⟨j + 1, by omega, by go_num, _, unhide HGO⟩, by simp [intOf]; omega⟩
    · have hj64 : j = 64 := by omega
      subst hj64
      have hI1 : ¬ ((64 : Nat) : Int) < 64 := by omega
      have HV : Hid (∃ v : Value, GrowAt zx w pg po (.slice pp n cc) n id 64 v wr) := ⟨v, hs⟩
      clear hs
      go_wp2_with fail
      go_end0
      exact ⟨rfl, unhide HV⟩
end Go.Proofs.YtfpbljfebjochaaGreatDoor.Kg
