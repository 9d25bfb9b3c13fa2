import Derived.Test.YtpeefmbdhkfhmaaGreatDoorW07
import Derived.Laws.StructEq
import Derived.Deep.RegionHeld3
import Derived.Deep.RegionLaw
/- The keeper's pages of columns: mark (179), same (236), fill (104), grow (105). By tools/genkc.py. -/
namespace Go.Proofs.YtpeefmbdhkfhmaaGreatDoor.Kg
open Go Go.Shelf Go.ChangeShapes Go.WideShapes Go.ChangeAt Go.RowKit Go.Maps
set_option linter.unusedVariables false
set_option linter.unusedSimpArgs false
def ldKM (x : Value) : Sem Value := Instr.loadAt 123 x
theorem ldKM_is (x : Value) : Instr.loadAt 123 x = ldKM x := rfl
theorem sizKM : (Tryz.prog.info? 123).map (·.size) = some 3 := by kernel_rfl
def cvM (x : Cm) : Value := .agg #[.string x.acc, .int .i64 x.deb, .int .i64 x.cre]
theorem run_ldKM {w : World} {b o : Nat} {x : Cm} (h : w.rangeAt b o x.vals) : (ldKM (.pointer (some ⟨b, o, none⟩))).run Tryz.prog w = .ok (cvM x) w :=
  run_loadAt_mid (P := Tryz.prog) w b o 123 x.vals _ h Tryz.underlying123 rfl sizKM
def stKM (x y : Value) : Sem Unit := Instr.storeAt 123 x y
theorem stKM_is (x y : Value) : Instr.storeAt 123 x y = stKM x y := rfl
theorem run_stKM {w : World} {b o : Nat} (h : w.there b o 3) (x : Cm) : (stKM (.pointer (some ⟨b, o, none⟩)) (cvM x)).run Tryz.prog w = .ok () (w.setCells b o x.vals) :=
  run_storeAt_mid (P := Tryz.prog) w b o 123 #[.string x.acc, .int .i64 x.deb, .int .i64 x.cre] h sizKM (by simp [Value.oneCell'])
def mkM (id k : Nat) : Cm := ⟨mkS id k, -(k : Int) - 1, 0⟩
def zM : Kk Cm := ⟨kM, mkM, 129, 53, 10⟩
theorem zM_ok : KkOK zM := by
  refine ⟨kM_ok, Tryz.underlying53, ?_, by decide⟩
  have h : (Tryz.prog.info? 129).map (fun i => (i.zero.map (fun z => z.cells.size), i.size, i.bytes)) = some (some 5, 5, 88) := by kernel_rfl
  obtain ⟨i, hi, hzz⟩ := Option.map_eq_some_iff.1 h
  simp only [Prod.mk.injEq] at hzz
  obtain ⟨z, hz, hs⟩ := Option.map_eq_some_iff.1 hzz.1
  exact ⟨i, z, hi, hz, hs, hzz.2.1, hzz.2.2⟩
theorem retM {tmps : Array Value} {w : World} {b : Nat} {x : Cm} (hp : tmps[4]?.getD undef = .pointer (some ⟨b, 0, none⟩)) (h : w.heap[b]? = some (.cells #[.string x.acc, .int .i64 x.deb, .int .i64 x.cre] 123 (0, 0))) :
    (results Tryz.f179 tmps).run Tryz.prog w = .ok (cvM x) w := by
  have q0 : w.cell? ⟨b, 0, none⟩ = some (.string x.acc) := by rw [cell_at h]; rfl
  have q1 : w.cell? ⟨b, 1, none⟩ = some (.int .i64 x.deb) := by rw [cell_at h]; rfl
  have q2 : w.cell? ⟨b, 2, none⟩ = some (.int .i64 x.cre) := by rw [cell_at h]; rfl
  simp [results, hp, asAddr, go_sem, q0, q1, q2, cvM]
set_option maxRecDepth 100000 in
set_option maxHeartbeats 2000000 in
theorem markM (id k : Nat) (hid : id < 1000000) (hk : k < 1000000) (w : World) (h : Pw w) : Calls Tryz.prog 179 #[.int .i64 (id : Int), .int .i64 (k : Int)] w fun e w' => e = .returned (cvM (mkM id k)) ∧ Below w.heap.size w w' := by
  obtain ⟨w1, hw1⟩ : ∃ w1, w1 = w.alloc (.cells #[.string ⟨#[]⟩, .int .i64 0, .int .i64 0] 123) := ⟨_, rfl⟩
  have b1 : Below w.heap.size w w1 := by rw [hw1]; exact bal (Below.refl _ _) _
  have z1 : w1.heap.size = w.heap.size + 1 := by rw [hw1]; simp
  have d := hide (text_any id k hid hk w1 (h.below b1))
  have hR1 : w1.heap[w.heap.size]? = some (.cells #[.string ⟨#[]⟩, .int .i64 0, .int .i64 0] 123 (0, 0)) := by rw [hw1]; exact heap_new _ _
  have HR := hide hR1
  have H1 := hide hw1
  have B1 := hide b1
  have s0 : -9223372036854775808 ≤ -(k : Int) := by omega
  have s1 : -(k : Int) ≤ 9223372036854775807 := by omega
  have s2 : -9223372036854775808 ≤ -(k : Int) - 1 := by omega
  have s3 : -(k : Int) - 1 ≤ 9223372036854775807 := by omega
  clear h hw1 b1 hR1
  go_enter Tryz.func179, Tryz.ntmps179
  go_wp2_with fail
  rw [← unhide H1]
  refine (unhide d).mono ?_
  rintro e w2 ⟨rfl, hg⟩
  have hb2 := hg.below
  have hR2 := (hb2.block w.heap.size (by omega)).trans (unhide HR)
  have q0 : w2.cell? ⟨w.heap.size, 0, none⟩ = some (.string ⟨#[]⟩) := by rw [cell_at hR2]; rfl
  have f0 : w2.frozen? ⟨w.heap.size, 0, none⟩ = false := froz_at hR2
  have q1 : w2.cell? ⟨w.heap.size, 1, none⟩ = some (.int .i64 0) := by rw [cell_at hR2]; rfl
  have f1 : w2.frozen? ⟨w.heap.size, 1, none⟩ = false := froz_at hR2
  have q2 : w2.cell? ⟨w.heap.size, 2, none⟩ = some (.int .i64 0) := by rw [cell_at hR2]; rfl
  have f2 : w2.frozen? ⟨w.heap.size, 2, none⟩ = false := froz_at hR2
  have HR2 := hide hR2
  have B2 : Hid (Below w.heap.size w w2) := (unhide B1).trans (hb2.mono (unhide B1).size)
  clear hg hb2 hR2
  go_wp2_with fail
  refine bodyPost_ret (retM (b := w.heap.size) (x := mkM id k) (by rfl) ?_) rfl ⟨rfl, ?_⟩
  · rw [Go.heap_setCell_same _ _ _ _ _ _ (Go.heap_setCell_same _ _ _ _ _ _ (Go.heap_setCell_same _ _ _ _ _ _ (unhide HR2)))]
    rfl
  · exact (((unhide B2).setCell (p := ⟨w.heap.size, 0, none⟩) (Nat.le_refl _) _).setCell (p := ⟨w.heap.size, 1, none⟩) (Nat.le_refl _) _).setCell (p := ⟨w.heap.size, 2, none⟩) (Nat.le_refl _) _
set_option maxRecDepth 100000 in
set_option maxHeartbeats 2000000 in
theorem eqkM (x : Cm) (w : World) : Calls Tryz.prog 236 #[cvM x, cvM x] w fun e w' => e = .returned (.bool true) ∧ Below w.heap.size w w' := by
  have sd : Tryz.prog.underlying 123 = some (.struct (Tryz.prog.fieldsOf 123)) := by kernel_rfl
  have sh : Tryz.prog.stoodInHeld 123 = false := by kernel_rfl
  have eg : Tryz.prog.eqGuardType Tryz.prog.depth 123 = false := by kernel_rfl
  have heq : ∀ w, (Op.equalIn 10000 123 (.agg #[.string x.acc, .int .i64 x.deb, .int .i64 x.cre]) (.agg #[.string x.acc, .int .i64 x.deb, .int .i64 x.cre])).run Tryz.prog w = .ok true w := fun w => by
    rw [run_equalIn_agg w 9999 123 _ _ sd sh]
    have fl : (Tryz.prog.fieldsOf 123).toList.map (fun f => (f.type, f.offset, f.name == "_")) = [(9, 0, false), (2, 1, false), (2, 2, false)] := by kernel_rfl
    obtain ⟨f0, f1, f2, hf⟩ : ∃ f0 f1 f2, (Tryz.prog.fieldsOf 123).toList = [f0, f1, f2] := by
      have h := congrArg List.length fl
      rw [List.length_map] at h
      match hq : (Tryz.prog.fieldsOf 123).toList, h with
      | [f0, f1, f2], _ => exact ⟨f0, f1, f2, rfl⟩
    have h := fl
    rw [hf] at h ⊢
    simp at h
    simp [Op.eqFields, go_sem, h, Tryz.underlying9, Tryz.underlying2, Tryz.underlying3]
  unfold cvM
  go_enter Tryz.func236, Tryz.ntmps236
  go_wp2_with fail
  go_ret
  exact ⟨rfl, bal (bal (Below.refl _ _) _) _⟩
attribute [local go_sem ↓] ldKM_is stKM_is
set_option maxRecDepth 100000 in
set_option maxHeartbeats 2000000 in
theorem fillM : FillC zM 104 := by
  intro pg po L n id X w hn hid hX hown hne h1 hL hI hD hDf hP
  have HF0 : Hid (FillAt zM w w L n id X 0) := FillAt.start hown
  have hpg : pg < w.heap.size := World.block_lt_of_cell? w ⟨pg, po, none⟩ hL
  obtain ⟨pp, cc, eL, _⟩ := row_slice hown
  subst eL
  have HL := hide hL; have HI := hide hI; have HD := hide hD; have HDF := hide hDf; have HPW := hide hP; have HX := hide hX; have HNE := hide hne; have H1 := hide h1
  clear hL hI hD hDf hP hown hX hne h1
  go_enter Tryz.func104, Tryz.ntmps104
  have l0 := unhide HL
  go_wp2_with fail
  clear l0
  go_loopw [2] (fun i wr => ∃ k : Nat, k ≤ n ∧ i = .int .i64 (k : Int) ∧ Hid (FillAt zM w wr (.slice pp n cc) n id X k)) (fun i _ => n - (intOf i).toNat)
  case atStart => exact ⟨0, by omega, rfl, unhide HF0⟩
  case round =>
    obtain ⟨k, hk, rfl, HS⟩ := hrel
    have hs := unhide HS
    have l1 : wr.cell? ⟨pg, po, none⟩ = some (.slice pp n cc) := (hs.gr.cell_far ⟨pg, po, none⟩ hpg (fun e => unhide HNE e.symm)).trans (unhide HL)
    have l2 : wr.cell? ⟨pg, po + 3, none⟩ = some (.int .i64 (id : Int)) := (hs.gr.cell_far ⟨pg, po + 3, none⟩ hpg (fun e => unhide HNE e.symm)).trans (unhide HI)
    clear HF0
    by_cases hlk : k < n
    · obtain ⟨gb, c', e⟩ := own_open hs.own (by omega)
      injection e with e1 _ e2
      subst e1 e2
      have hpr : pg < wr.heap.size := Nat.lt_of_lt_of_le hpg hs.gr.size
      have hI1 : (k : Int) < (n : Int) := by omega
      have hI0 : (0 : Int) ≤ (k : Int) := by omega
      have hmk := hide (markM id k (by omega) (by omega) wr.drew ((unhide HPW).keep (hs.gr.block 1 (unhide HPW).lt (fun e => unhide H1 e.symm))))
      have HST : Hid (∀ w2, Below wr.heap.size wr w2 → (stKM (.pointer (some ⟨gb, k * 3, none⟩)) (cvM (mkM id k))).run Tryz.prog w2 = .ok () (w2.setCells gb (k * 3) (mkM id k).vals) ∧ FillAt zM w (w2.setCells gb (k * 3) (mkM id k).vals) (.slice (some ⟨gb, 0, none⟩) n cc) n id X (k + 1)) := fun w2 hb =>
        ⟨run_stKM (own_there (K := kM) kM_ok (hs.below hb).own hlk) (mkM id k), (hs.below hb).step kM_ok (unhide HX) hlk⟩
      have hpgb : pg ≠ gb := fun e => unhide HNE (by rw [e]; rfl)
      have HFAR : Hid (∀ (w2 : World) i u, w2.cell? ⟨pg, i, none⟩ = some u → (w2.setCells gb (k * 3) (mkM id k).vals).cell? ⟨pg, i, none⟩ = some u) := fun w2 i u h => (World.cell?_of_block (setCells_far gb hpgb _ _ _)).trans h
      clear hs
      obtain ⟨vm, hvm⟩ : ∃ vm, vm = cvM (mkM id k) := ⟨_, rfl⟩
      rw [← hvm] at hmk HST
      clear hvm
      go_wp2_with fail
      go_region_held3 (fun W => W.cell? ⟨pg, po, none⟩ = some (.slice (some ⟨gb, 0, none⟩) n cc) ∧ W.cell? ⟨pg, po + 3, none⟩ = some (.int .i64 (id : Int))) (first | (refine ⟨?_, ?_⟩ <;> with_reducible assumption) | go_keep) ((go_at_call 179; refine (unhide hmk).mono ?_; rintro e w2 ⟨rfl, hb⟩; have B2 : Hid (Below wr.heap.size wr w2) := ⟨hb.os, hb.tape, hb.output, hb.size, hb.block⟩; have q1 := keep1 (unhide B2) hpr l1; have q2 := keep1 (unhide B2) hpr l2; have hst := (unhide HST w2 (unhide B2)).1; have q3 := unhide HFAR w2 _ _ q1; have q4 := unhide HFAR w2 _ _ q2; clear hb))
      all_goals
        go_wp2_with fail
        refine ⟨⟨k + 1, by omega, by go_num, (unhide HST w2 (unhide B2)).2⟩, by simp [intOf]; omega⟩
    · have hkn : k = n := by omega
      subst hkn
      have hI1 : ¬ (k : Int) < (k : Int) := by omega
      obtain ⟨vd, hvd⟩ := unhide HD
      have l3 : wr.cell? ⟨pg, po + 4, none⟩ = some vd := (hs.gr.cell_far ⟨pg, po + 4, none⟩ hpg (fun e => unhide HNE e.symm)).trans hvd
      have l4 : wr.frozen? ⟨pg, po + 4, none⟩ = false := (hs.gr.frozen_far ⟨pg, po + 4, none⟩ hpg (fun e => unhide HNE e.symm)).trans (unhide HDF)
      clear hs hvd
      go_wp2_with fail
      go_end0
      exact ⟨rfl, wr, unhide HS, rfl⟩
set_option maxRecDepth 100000 in
set_option maxHeartbeats 8000000 in
theorem growM : GrowC zM 105 := by
  intro pg po L n id w hn hid hown hne h1 hp1 hL hG hGf hI hP
  have hLat : ∀ b, L.ownBlock = some b → b < w.heap.size ∧ ∃ c, L = .slice (some ⟨b, 0, none⟩) n c := fun b hb => own_at hown hb
  have G0 : Hid (GrowAt zM w pg po L n id 0 L (w.setCell ⟨pg, po + 1, none⟩ L)) := GrowAt.begin kM_ok hne hown
  have hpg : pg < w.heap.size := World.block_lt_of_cell? w ⟨pg, po, none⟩ hL
  obtain ⟨pp, cc, eL, _⟩ := row_slice hown
  obtain ⟨u, hu⟩ := hG
  have HU := hide hu; have HID := hide hI; have HGF := hide hGf; have HPW := hide hP; have HNE := hide hne; have H1 := hide h1; have HLA := hide hLat
  subst eL
  clear hP hown hne h1 hLat
  go_enter Tryz.func105, Tryz.ntmps105
  go_wp2_with fail
  clear hL hI hu hGf
  go_loopw [2] (fun i wr => ∃ (j : Nat), j ≤ 64 ∧ i = .int .i64 (j : Int) ∧ Hid (∃ v : Value, GrowAt zM w pg po (.slice pp n cc) n id j v wr)) (fun i _ => 64 - (intOf i).toNat)
  case atStart => exact ⟨0, by omega, rfl, _, unhide G0⟩
  case round =>
    obtain ⟨j, hj, rfl, HS⟩ := hrel
    obtain ⟨v, hs⟩ := unhide HS
    clear G0
    by_cases hlt : j < 64
    · have l1 := hs.g (unhide HU)
      have l2 : wr.cell? ⟨pg, po + 3, none⟩ = some (.int .i64 (id : Int)) := (hs.cell (by omega)).trans (unhide HID)
      have l3 : wr.frozen? ⟨pg, po + 1, none⟩ = false := (hs.frozen (po + 1)).trans (unhide HGF)
      have hI1 : (j : Int) < 64 := by omega
      have hpr : pg < wr.heap.size := Nat.lt_of_lt_of_le hpg hs.size
      have hbe := hide (behind_any id hid)
      have hmk := hide (markM (id + 100000) j (by omega) (by omega) wr.drew ((unhide HPW).keep (hs.far 1 (unhide HPW).lt (fun e => hp1 e.symm) (unhide H1))))
      have hcast : ((id + 100000 : Nat) : Int) = (id : Int) + 100000 := by omega
      rw [hcast] at hmk
      have HSTEP : Hid (∀ w2 ty, Below wr.heap.size wr w2 → ∃ g c5 w5, (Builtin.append_ #[92, 92] ty #[v, .slice (some ⟨w2.heap.size, 0, none⟩) 1 1]).run Tryz.prog (w2.alloc (.cells #[.string (mkS (id + 100000) j), .int .i64 (-(j : Int) - 1), .int .i64 0] 123)) = .ok (.slice (some ⟨g, 0, none⟩) (n + j + 1) c5) w5 ∧ w5.cell? ⟨pg, po + 1, none⟩ = some v ∧ w5.cell? ⟨pg, po + 3, none⟩ = some (.int .i64 (id : Int)) ∧ w5.frozen? ⟨pg, po + 1, none⟩ = false ∧
          GrowAt zM w pg po (.slice pp n cc) n id (j + 1) (.slice (some ⟨g, 0, none⟩) (n + j + 1) c5) (w5.setCell ⟨pg, po + 1, none⟩ (.slice (some ⟨g, 0, none⟩) (n + j + 1) c5))) := fun w2 ty hb => by
        have hba := bal hb (.cells #[.string (mkS (id + 100000) j), .int .i64 (-(j : Int) - 1), .int .i64 0] 123)
        obtain ⟨g, c5, w5, r5, o5, g5⟩ := run_appK (K := kM) kM_ok ty (W := w2.alloc (.cells #[.string (mkS (id + 100000) j), .int .i64 (-(j : Int) - 1), .int .i64 0] 123)) (M := [mkM (id + 100000) j]) (row_far hs.own fun q hq => hba.block q (row_lt hs.own hq).2) (Nat.zero_le _) ⟨w2.heap.size, 0, none⟩ 1 (by simp) (one_lies w2 (mkM (id + 100000) j) 123 _ rfl) (by simp; omega)
        have hvn := hs.ne (unhide HNE) hpg
        have hpW : pg < (w2.alloc (.cells #[.string (mkS (id + 100000) j), .int .i64 (-(j : Int) - 1), .int .i64 0] 123)).heap.size := Nat.lt_of_lt_of_le hpr hba.size
        have hblk : w5.heap[pg]? = wr.heap[pg]? := by
          refine Eq.trans ?_ (hba.block pg hpr)
          rcases g5 with ⟨k1, k2⟩ | ⟨k1, k2⟩
          · exact k2.block pg hpW (fun e => hvn g k1 (by injection e with e; exact e.symm))
          · exact k2.block pg hpW (by simp)
        exact ⟨g, c5, w5, r5, (World.cell?_of_block hblk).trans l1, (World.cell?_of_block hblk).trans l2, (World.frozen?_of_block hblk).trans l3, hs.step kM_ok (unhide HNE) hpg (unhide HLA) hba o5 g5⟩
      clear hs hcast HS
      unfold cvM at hmk
      simp only [mkM] at hmk
      go_wp2_with fail
      refine wp_region_last (n := 16) (S := fun W => W.cell? ⟨pg, po + 1, none⟩ = some v ∧ W.cell? ⟨pg, po + 3, none⟩ = some (.int .i64 (id : Int))) (by kernel_rfl) (by first | (exact ⟨l1, l2⟩)) (fun hHeld => ?_)
      refine tkW 0 ?_
      refine tkW 1 ?_
      refine tkW 2 ?_
      refine tkW 3 ?_
      refine tkS 4 ?_
      refine tkW 5 ?_
      refine tkW 6 ?_
      refine tkW 7 ?_
      refine tkS 8 ?_
      refine tkW 10 ?_
      refine wpAnyL_one (i := 9) (by kernel_rfl) rfl (fun KK hK => ?_)
      go_simp
      go_wp2_with (first | (go_at_call 178; refine (unhide hbe _).mono ?_; rintro e w2 ⟨rfl, hw⟩; rw [hw]; clear hw w2))
      refine hK.out _ _ (by first | (exact ⟨l1, l2⟩)) (fun hHeld => ?_)
      clear hK KK
      refine wpAnyL_one (i := 11) (by kernel_rfl) rfl (fun KK hK => ?_)
      go_simp
      go_wp2_with (first | (go_at_call 179; refine (unhide hmk).mono ?_; rintro e w2 ⟨rfl, hb⟩; have B2 : Hid (Below wr.heap.size wr w2) := ⟨hb.os, hb.tape, hb.output, hb.size, hb.block⟩; have m1 := keep1 (unhide B2) hpr l1; have m2 := keep1 (unhide B2) hpr l2; have hz2 : wr.heap.size ≤ w2.heap.size := (unhide B2).size; clear hb))
      refine hK.out _ _ (by first | (exact ⟨m1, m2⟩)) (fun hHeld => ?_)
      clear hK KK
      refine wpAnyL_one (i := 12) (by kernel_rfl) rfl (fun KK hK => ?_)
      go_simp
      refine hK.out _ _ (by first | (exact ⟨keep1 (bal (Below.refl w2.heap.size w2) _) (by omega) m1, keep1 (bal (Below.refl w2.heap.size w2) _) (by omega) m2⟩)) (fun hHeld => ?_)
      clear hK KK
      refine wpAnyL_one (i := 13) (by kernel_rfl) rfl (fun KK hK => ?_)
      obtain ⟨g, c5, w5, r5, t1, t2, t3, hgo⟩ := unhide HSTEP w2 92 (unhide B2)
      refine step_append_run _ (by rfl) _ _ 92 (by rfl) v _ _ _ (by rfl) (by rfl) r5 ?_
      have HGO := hide hgo
      clear r5 hgo
      refine hK.out _ _ (by first | (exact ⟨t1, t2⟩)) (fun hHeld => ?_)
      clear hK KK
      refine tkW 14 ?_
      refine tkW 15 ?_
      refine wpAnyL_end (i := 16) (by kernel_rfl) rfl (by kernel_rfl) (by kernel_rfl) (fun KK hK => ?_)
      go_simp
      refine hK.out _ _ ?_
      clear hK KK
      go_wp2_with fail
      exact ⟨⟨j + 1, by omega, by go_num, _, unhide HGO⟩, by simp [intOf]; omega⟩
    · have hj64 : j = 64 := by omega
      subst hj64
      have hI1 : ¬ ((64 : Nat) : Int) < 64 := by omega
      have HV : Hid (∃ v : Value, GrowAt zM w pg po (.slice pp n cc) n id 64 v wr) := ⟨v, hs⟩
      clear hs
      go_wp2_with fail
      go_end0
      exact ⟨rfl, unhide HV⟩
end Go.Proofs.YtpeefmbdhkfhmaaGreatDoor.Kg
