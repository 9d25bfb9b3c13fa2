import Derived.Test.YtmgnlgobkkfjhaaGreatDoorW11
import Derived.Test.YtmgnlgobkkfjhaaGreatDoorW04
import Derived.Laws.StructEq
import Derived.Deep.RegionHeld3
import Derived.Deep.RegionLaw
import Derived.Test.YtmgnlgobkkfjhaaGreatDoorW03
import Derived.Test.YtmgnlgobkkfjhaaGreatDoorW08
/- The keeper's pages of days: mark (15), same (21), fill (93), grow (94). By tools/genkc.py. -/
namespace Go.Proofs.YtmgnlgobkkfjhaaGreatDoor.Kg
open Go Go.Shelf Go.ChangeShapes Go.WideShapes Go.ChangeAt Go.RowKit Go.Maps
set_option linter.unusedVariables false
set_option linter.unusedSimpArgs false
def ldKQ (x : Value) : Sem Value := Instr.loadAt 38 x
theorem ldKQ_is (x : Value) : Instr.loadAt 38 x = ldKQ x := rfl
theorem sizKQ : (Tryz.prog.info? 38).map (·.size) = some 4 := by kernel_rfl
def cvQ (x : Dq) : Value := .agg #[.string x.acc, .int .i64 x.day, .int .i64 x.chg, .int .i64 x.bal]
theorem run_ldKQ {w : World} {b o : Nat} {x : Dq} (h : w.rangeAt b o x.vals) : (ldKQ (.pointer (some ⟨b, o, none⟩))).run Tryz.prog w = .ok (cvQ x) w :=
  run_loadAt_mid (P := Tryz.prog) w b o 38 x.vals _ h Tryz.underlying38 rfl sizKQ
def stKQ (x y : Value) : Sem Unit := Instr.storeAt 38 x y
theorem stKQ_is (x y : Value) : Instr.storeAt 38 x y = stKQ x y := rfl
theorem run_stKQ {w : World} {b o : Nat} (h : w.there b o 4) (x : Dq) : (stKQ (.pointer (some ⟨b, o, none⟩)) (cvQ x)).run Tryz.prog w = .ok () (w.setCells b o x.vals) :=
  run_storeAt_mid (P := Tryz.prog) w b o 38 #[.string x.acc, .int .i64 x.day, .int .i64 x.chg, .int .i64 x.bal] h sizKQ (by simp [Value.oneCell'])
def mkQ (id k : Nat) : Dq := ⟨mkS id k, -(k : Int) - 1, 0, 0⟩
def zQ : Kk Dq := ⟨kQ, mkQ, 121, 54, 11⟩
theorem zQ_ok : KkOK zQ := by
  refine ⟨kQ_ok, Tryz.underlying54, ?_, by decide⟩
  have h : (Tryz.prog.info? 121).map (fun i => (i.zero.map (fun z => z.cells.size), i.size, i.bytes)) = some (some 5, 5, 88) := by kernel_rfl
  obtain ⟨i, hi, hzz⟩ := Option.map_eq_some_iff.1 h
  simp only [Prod.mk.injEq] at hzz
  obtain ⟨z, hz, hs⟩ := Option.map_eq_some_iff.1 hzz.1
  exact ⟨i, z, hi, hz, hs, hzz.2.1, hzz.2.2⟩
theorem retQ {tmps : Array Value} {w : World} {b : Nat} {x : Dq} (hp : tmps[4]?.getD undef = .pointer (some ⟨b, 0, none⟩)) (h : w.heap[b]? = some (.cells #[.string x.acc, .int .i64 x.day, .int .i64 x.chg, .int .i64 x.bal] 38 (0, 0))) :
    (results Tryz.f15 tmps).run Tryz.prog w = .ok (cvQ x) w := by
  have q0 : w.cell? ⟨b, 0, none⟩ = some (.string x.acc) := by rw [cell_at h]; rfl
  have q1 : w.cell? ⟨b, 1, none⟩ = some (.int .i64 x.day) := by rw [cell_at h]; rfl
  have q2 : w.cell? ⟨b, 2, none⟩ = some (.int .i64 x.chg) := by rw [cell_at h]; rfl
  have q3 : w.cell? ⟨b, 3, none⟩ = some (.int .i64 x.bal) := by rw [cell_at h]; rfl
  simp [results, hp, asAddr, go_sem, q0, q1, q2, q3, cvQ]
set_option maxRecDepth 100000 in
set_option maxHeartbeats 2000000 in
theorem markQ (id k : Nat) (hid : id < 1000000) (hk : k < 1000000) (w : World) (h : Pw w) : Calls Tryz.prog 15 #[.int .i64 (id : Int), .int .i64 (k : Int)] w fun e w' => e = .returned (cvQ (mkQ id k)) ∧ Below w.heap.size w w' := by
  obtain ⟨w1, hw1⟩ : ∃ w1, w1 = w.alloc (.cells #[.string ⟨#[]⟩, .int .i64 0, .int .i64 0, .int .i64 0] 38) := ⟨_, rfl⟩
  have b1 : Below w.heap.size w w1 := by rw [hw1]; exact bal (Below.refl _ _) _
  have z1 : w1.heap.size = w.heap.size + 1 := by rw [hw1]; simp
  have d := hide (text_any id k hid hk w1 (h.below b1))
  have hR1 : w1.heap[w.heap.size]? = some (.cells #[.string ⟨#[]⟩, .int .i64 0, .int .i64 0, .int .i64 0] 38 (0, 0)) := by rw [hw1]; exact heap_new _ _
  have HR := hide hR1
  have H1 := hide hw1
  have B1 := hide b1
  have s0 : -9223372036854775808 ≤ -(k : Int) := by omega
  have s1 : -(k : Int) ≤ 9223372036854775807 := by omega
  have s2 : -9223372036854775808 ≤ -(k : Int) - 1 := by omega
  have s3 : -(k : Int) - 1 ≤ 9223372036854775807 := by omega
  clear h hw1 b1 hR1
  go_enter Tryz.func15, Tryz.ntmps15
  go_wp2_with fail
  rw [← unhide H1]
  refine (unhide d).mono ?_
  rintro e w2 ⟨rfl, hg⟩
  have hb2 := hg.below
  have hR2 := (hb2.block w.heap.size (by omega)).trans (unhide HR)
  have q0 : w2.cell? ⟨w.heap.size, 0, none⟩ = some (.string ⟨#[]⟩) := by rw [cell_at hR2]; rfl
  have f0 : w2.frozen? ⟨w.heap.size, 0, none⟩ = false := froz_at hR2
  have q1 : w2.cell? ⟨w.heap.size, 1, none⟩ = some (.int .i64 0) := by rw [cell_at hR2]; rfl
  have f1 : w2.frozen? ⟨w.heap.size, 1, none⟩ = false := froz_at hR2
  have q2 : w2.cell? ⟨w.heap.size, 2, none⟩ = some (.int .i64 0) := by rw [cell_at hR2]; rfl
  have f2 : w2.frozen? ⟨w.heap.size, 2, none⟩ = false := froz_at hR2
  have q3 : w2.cell? ⟨w.heap.size, 3, none⟩ = some (.int .i64 0) := by rw [cell_at hR2]; rfl
  have f3 : w2.frozen? ⟨w.heap.size, 3, none⟩ = false := froz_at hR2
  have HR2 := hide hR2
  have B2 : Hid (Below w.heap.size w w2) := (unhide B1).trans (hb2.mono (unhide B1).size)
  clear hg hb2 hR2
  go_wp2_with fail
  refine bodyPost_ret (retQ (b := w.heap.size) (x := mkQ id k) (by rfl) ?_) rfl ⟨rfl, ?_⟩
  · rw [Go.heap_setCell_same _ _ _ _ _ _ (Go.heap_setCell_same _ _ _ _ _ _ (Go.heap_setCell_same _ _ _ _ _ _ (Go.heap_setCell_same _ _ _ _ _ _ (unhide HR2))))]
    rfl
  · exact ((((unhide B2).setCell (p := ⟨w.heap.size, 0, none⟩) (Nat.le_refl _) _).setCell (p := ⟨w.heap.size, 1, none⟩) (Nat.le_refl _) _).setCell (p := ⟨w.heap.size, 2, none⟩) (Nat.le_refl _) _).setCell (p := ⟨w.heap.size, 3, none⟩) (Nat.le_refl _) _
set_option maxRecDepth 100000 in
set_option maxHeartbeats 2000000 in
theorem eqkQ (x : Dq) (w : World) : Calls Tryz.prog 21 #[cvQ x, cvQ x] w fun e w' => e = .returned (.bool true) ∧ Below w.heap.size w w' := by
  have sd : Tryz.prog.underlying 38 = some (.struct (Tryz.prog.fieldsOf 38)) := by kernel_rfl
  have sh : Tryz.prog.stoodInHeld 38 = false := by kernel_rfl
  have eg : Tryz.prog.eqGuardType Tryz.prog.depth 38 = false := by kernel_rfl
  have heq : ∀ w, (Op.equalIn 10000 38 (.agg #[.string x.acc, .int .i64 x.day, .int .i64 x.chg, .int .i64 x.bal]) (.agg #[.string x.acc, .int .i64 x.day, .int .i64 x.chg, .int .i64 x.bal])).run Tryz.prog w = .ok true w := fun w => by
    rw [run_equalIn_agg w 9999 38 _ _ sd sh]
    have fl : (Tryz.prog.fieldsOf 38).toList.map (fun f => (f.type, f.offset, f.name == "_")) = [(9, 0, false), (3, 1, false), (2, 2, false), (2, 3, false)] := by kernel_rfl
    obtain ⟨f0, f1, f2, f3, hf⟩ : ∃ f0 f1 f2 f3, (Tryz.prog.fieldsOf 38).toList = [f0, f1, f2, f3] := by
      have h := congrArg List.length fl
      rw [List.length_map] at h
      match hq : (Tryz.prog.fieldsOf 38).toList, h with
      | [f0, f1, f2, f3], _ => exact ⟨f0, f1, f2, f3, rfl⟩
    have h := fl
    rw [hf] at h ⊢
    simp at h
    simp [Op.eqFields, go_sem, h, Tryz.underlying9, Tryz.underlying2, Tryz.underlying3]
  unfold cvQ
  go_enter Tryz.func21, Tryz.ntmps21
  go_wp2_with fail
  go_ret
  exact ⟨rfl, bal (bal (Below.refl _ _) _) _⟩
attribute [local go_sem ↓] ldKQ_is stKQ_is
set_option maxRecDepth 100000 in
set_option maxHeartbeats 2000000 in
theorem fillQ : FillC zQ 93 := by
  intro pg po L n id X w hn hid hX hown hne h1 hL hI hD hDf hP
  have HF0 : Hid (FillAt zQ w w L n id X 0) := FillAt.start hown
  have hpg : pg < w.heap.size := World.block_lt_of_cell? w ⟨pg, po, none⟩ hL
  obtain ⟨pp, cc, eL, _⟩ := row_slice hown
  subst eL
  have HL := hide hL; have HI := hide hI; have HD := hide hD; have HDF := hide hDf; have HPW := hide hP; have HX := hide hX; have HNE := hide hne; have H1 := hide h1
  clear hL hI hD hDf hP hown hX hne h1
  go_enter Tryz.func93, Tryz.ntmps93
  have l0 := unhide HL
  go_wp2_with fail
  clear l0
  go_loopw [2] (fun i wr => ∃ k : Nat, k ≤ n ∧ i = .int .i64 (k : Int) ∧ Hid (FillAt zQ w wr (.slice pp n cc) n id X k)) (fun i _ => n - (intOf i).toNat)
  case atStart => exact ⟨0, by omega, rfl, unhide HF0⟩
  case round =>
    obtain ⟨k, hk, rfl, HS⟩ := hrel
    have hs := unhide HS
    have l1 : wr.cell? ⟨pg, po, none⟩ = some (.slice pp n cc) := (hs.gr.cell_far ⟨pg, po, none⟩ hpg (fun e => unhide HNE e.symm)).trans (unhide HL)
    have l2 : wr.cell? ⟨pg, po + 3, none⟩ = some (.int .i64 (id : Int)) := (hs.gr.cell_far ⟨pg, po + 3, none⟩ hpg (fun e => unhide HNE e.symm)).trans (unhide HI)
    clear HF0
    by_cases hlk : k < n
    · obtain ⟨gb, c', e⟩ := own_open hs.own (by omega)
      injection e with e1 _ e2
      subst e1 e2
      have hpr : pg < wr.heap.size := Nat.lt_of_lt_of_le hpg hs.gr.size
      have hI1 : (k : Int) < (n : Int) := by omega
      have hI0 : (0 : Int) ≤ (k : Int) := by omega
      have hmk := hide (markQ id k (by omega) (by omega) wr.drew ((unhide HPW).keep (hs.gr.block 1 (unhide HPW).lt (fun e => unhide H1 e.symm))))
      have HST : Hid (∀ w2, Below wr.heap.size wr w2 → (stKQ (.pointer (some ⟨gb, k * 4, none⟩)) (cvQ (mkQ id k))).run Tryz.prog w2 = .ok () (w2.setCells gb (k * 4) (mkQ id k).vals) ∧ FillAt zQ w (w2.setCells gb (k * 4) (mkQ id k).vals) (.slice (some ⟨gb, 0, none⟩) n cc) n id X (k + 1)) := fun w2 hb =>
        ⟨run_stKQ (own_there (K := kQ) kQ_ok (hs.below hb).own hlk) (mkQ id k), (hs.below hb).step kQ_ok (unhide HX) hlk⟩
      have hpgb : pg ≠ gb := fun e => unhide HNE (by rw [e]; rfl)
      have HFAR : Hid (∀ (w2 : World) i u, w2.cell? ⟨pg, i, none⟩ = some u → (w2.setCells gb (k * 4) (mkQ id k).vals).cell? ⟨pg, i, none⟩ = some u) := fun w2 i u h => (World.cell?_of_block (setCells_far gb hpgb _ _ _)).trans h
      clear hs
      obtain ⟨vm, hvm⟩ : ∃ vm, vm = cvQ (mkQ id k) := ⟨_, rfl⟩
      rw [← hvm] at hmk HST
      clear hvm
      go_wp2_with fail
      go_region_held3 (fun W => W.cell? ⟨pg, po, none⟩ = some (.slice (some ⟨gb, 0, none⟩) n cc) ∧ W.cell? ⟨pg, po + 3, none⟩ = some (.int .i64 (id : Int))) (first | (refine ⟨?_, ?_⟩ <;> with_reducible assumption) | go_keep) ((go_at_call 15; refine (unhide hmk).mono ?_; rintro e w2 ⟨rfl, hb⟩; have B2 : Hid (Below wr.heap.size wr w2) := ⟨hb.os, hb.tape, hb.output, hb.size, hb.block⟩; have q1 := keep1 (unhide B2) hpr l1; have q2 := keep1 (unhide B2) hpr l2; have hst := (unhide HST w2 (unhide B2)).1; have q3 := unhide HFAR w2 _ _ q1; have q4 := unhide HFAR w2 _ _ q2; clear hb))
      all_goals
        go_wp2_with fail
        refine ⟨⟨k + 1, by omega, by go_num, (unhide HST w2 (unhide B2)).2⟩, by simp [intOf]; omega⟩
    · have hkn : k = n := by omega
      subst hkn
      have hI1 : ¬ (k : Int) < (k : Int) := by omega
      obtain ⟨vd, hvd⟩ := unhide HD
      have l3 : wr.cell? ⟨pg, po + 4, none⟩ = some vd := (hs.gr.cell_far ⟨pg, po + 4, none⟩ hpg (fun e => unhide HNE e.symm)).trans hvd
      have l4 : wr.frozen? ⟨pg, po + 4, none⟩ = false := (hs.gr.frozen_far ⟨pg, po + 4, none⟩ hpg (fun e => unhide HNE e.symm)).trans (unhide HDF)
      clear hs hvd
      go_wp2_with fail
      go_end0
      exact ⟨rfl, wr, unhide HS, rfl⟩
set_option maxRecDepth 100000 in
set_option maxHeartbeats 8000000 in
theorem growQ : GrowC zQ 94 := by
  intro pg po L n id w hn hid hown hne h1 hp1 hL hG hGf hI hP
  have hLat : ∀ b, L.ownBlock = some b → b < w.heap.size ∧ ∃ c, L = .slice (some ⟨b, 0, none⟩) n c := fun b hb => own_at hown hb
  have G0 : Hid (GrowAt zQ w pg po L n id 0 L (w.setCell ⟨pg, po + 1, none⟩ L)) := GrowAt.begin kQ_ok hne hown
  have hpg : pg < w.heap.size := World.block_lt_of_cell? w ⟨pg, po, none⟩ hL
  obtain ⟨pp, cc, eL, _⟩ := row_slice hown
  obtain ⟨u, hu⟩ := hG
  have HU := hide hu; have HID := hide hI; have HGF := hide hGf; have HPW := hide hP; have HNE := hide hne; have H1 := hide h1; have HLA := hide hLat
  subst eL
  clear hP hown hne h1 hLat
  go_enter Tryz.func94, Tryz.ntmps94
  go_wp2_with fail
  clear hL hI hu hGf
  go_loopw [2] (fun i wr => ∃ (j : Nat), j ≤ 64 ∧ i = .int .i64 (j : Int) ∧ Hid (∃ v : Value, GrowAt zQ w pg po (.slice pp n cc) n id j v wr)) (fun i _ => 64 - (intOf i).toNat)
  case atStart => exact ⟨0, by omega, rfl, _, unhide G0⟩
  case round =>
    obtain ⟨j, hj, rfl, HS⟩ := hrel
    obtain ⟨v, hs⟩ := unhide HS
    clear G0
    by_cases hlt : j < 64
    · have l1 := hs.g (unhide HU)
      have l2 : wr.cell? ⟨pg, po + 3, none⟩ = some (.int .i64 (id : Int)) := (hs.cell (by omega)).trans (unhide HID)
      have l3 : wr.frozen? ⟨pg, po + 1, none⟩ = false := (hs.frozen (po + 1)).trans (unhide HGF)
      have hI1 : (j : Int) < 64 := by omega
      have hpr : pg < wr.heap.size := Nat.lt_of_lt_of_le hpg hs.size
      have hbe := hide (behind_any id hid)
      have hmk := hide (markQ (id + 100000) j (by omega) (by omega) wr.drew ((unhide HPW).keep (hs.far 1 (unhide HPW).lt (fun e => hp1 e.symm) (unhide H1))))
      have hcast : ((id + 100000 : Nat) : Int) = (id : Int) + 100000 := by omega
      rw [hcast] at hmk
      have HSTEP : Hid (∀ w2 ty, Below wr.heap.size wr w2 → ∃ g c5 w5, (Builtin.append_ #[22, 22] ty #[v, .slice (some ⟨w2.heap.size, 0, none⟩) 1 1]).run Tryz.prog (w2.alloc (.cells #[.string (mkS (id + 100000) j), .int .i64 (-(j : Int) - 1), .int .i64 0, .int .i64 0] 38)) = .ok (.slice (some ⟨g, 0, none⟩) (n + j + 1) c5) w5 ∧ w5.cell? ⟨pg, po + 1, none⟩ = some v ∧ w5.cell? ⟨pg, po + 3, none⟩ = some (.int .i64 (id : Int)) ∧ w5.frozen? ⟨pg, po + 1, none⟩ = false ∧
          GrowAt zQ w pg po (.slice pp n cc) n id (j + 1) (.slice (some ⟨g, 0, none⟩) (n + j + 1) c5) (w5.setCell ⟨pg, po + 1, none⟩ (.slice (some ⟨g, 0, none⟩) (n + j + 1) c5))) := fun w2 ty hb => by
        have hba := bal hb (.cells #[.string (mkS (id + 100000) j), .int .i64 (-(j : Int) - 1), .int .i64 0, .int .i64 0] 38)
        obtain ⟨g, c5, w5, r5, o5, g5⟩ := run_appK (K := kQ) kQ_ok ty (W := w2.alloc (.cells #[.string (mkS (id + 100000) j), .int .i64 (-(j : Int) - 1), .int .i64 0, .int .i64 0] 38)) (M := [mkQ (id + 100000) j]) (row_far hs.own fun q hq => hba.block q (row_lt hs.own hq).2) (Nat.zero_le _) ⟨w2.heap.size, 0, none⟩ 1 (by simp) (one_lies w2 (mkQ (id + 100000) j) 38 _ rfl) (by simp; omega)
        have hvn := hs.ne (unhide HNE) hpg
        have hpW : pg < (w2.alloc (.cells #[.string (mkS (id + 100000) j), .int .i64 (-(j : Int) - 1), .int .i64 0, .int .i64 0] 38)).heap.size := Nat.lt_of_lt_of_le hpr hba.size
        have hblk : w5.heap[pg]? = wr.heap[pg]? := by
          refine Eq.trans ?_ (hba.block pg hpr)
          rcases g5 with ⟨k1, k2⟩ | ⟨k1, k2⟩
          · exact k2.block pg hpW (fun e => hvn g k1 (by injection e with e; exact e.symm))
          · exact k2.block pg hpW (by simp)
        exact ⟨g, c5, w5, r5, (World.cell?_of_block hblk).trans l1, (World.cell?_of_block hblk).trans l2, (World.frozen?_of_block hblk).trans l3, hs.step kQ_ok (unhide HNE) hpg (unhide HLA) hba o5 g5⟩
      clear hs hcast HS
      unfold cvQ at hmk
      simp only [mkQ] at hmk
      go_wp2_with fail
      refine wp_region_last (n := 16) (S := fun W => W.cell? ⟨pg, po + 1, none⟩ = some v ∧ W.cell? ⟨pg, po + 3, none⟩ = some (.int .i64 (id : Int))) (by kernel_rfl) (by first | (exact ⟨l1, l2⟩)) (fun hHeld => ?_)
      refine tkW 0 ?_
      refine tkW 1 ?_
      refine tkW 2 ?_
      refine tkW 3 ?_
      refine tkS 4 ?_
      refine tkW 5 ?_
      refine tkW 6 ?_
      refine tkW 7 ?_
      refine tkS 8 ?_
      refine tkW 10 ?_
      refine wpAnyL_one (i := 9) (by kernel_rfl) rfl (fun KK hK => ?_)
      go_simp
      go_wp2_with (first | (go_at_call 170; refine (unhide hbe _).mono ?_; rintro e w2 ⟨rfl, hw⟩; rw [hw]; clear hw w2))
      refine hK.out _ _ (by first | (exact ⟨l1, l2⟩)) (fun hHeld => ?_)
      clear hK KK
      refine wpAnyL_one (i := 11) (by kernel_rfl) rfl (fun KK hK => ?_)
      go_simp
      go_wp2_with (first | (go_at_call 15; refine (unhide hmk).mono ?_; rintro e w2 ⟨rfl, hb⟩; have B2 : Hid (Below wr.heap.size wr w2) := ⟨hb.os, hb.tape, hb.output, hb.size, hb.block⟩; have m1 := keep1 (unhide B2) hpr l1; have m2 := keep1 (unhide B2) hpr l2; have hz2 : wr.heap.size ≤ w2.heap.size := (unhide B2).size; clear hb))
      refine hK.out _ _ (by first | (exact ⟨m1, m2⟩)) (fun hHeld => ?_)
      clear hK KK
      refine wpAnyL_one (i := 12) (by kernel_rfl) rfl (fun KK hK => ?_)
      go_simp
      refine hK.out _ _ (by first | (exact ⟨keep1 (bal (Below.refl w2.heap.size w2) _) (by omega) m1, keep1 (bal (Below.refl w2.heap.size w2) _) (by omega) m2⟩)) (fun hHeld => ?_)
      clear hK KK
      refine wpAnyL_one (i := 13) (by kernel_rfl) rfl (fun KK hK => ?_)
      obtain ⟨g, c5, w5, r5, t1, t2, t3, hgo⟩ := unhide HSTEP w2 22 (unhide B2)
      refine step_append_run _ (by rfl) _ _ 22 (by rfl) v _ _ _ (by rfl) (by rfl) r5 ?_
      have HGO := hide hgo
      clear r5 hgo
      refine hK.out _ _ (by first | (exact ⟨t1, t2⟩)) (fun hHeld => ?_)
      clear hK KK
      refine tkW 14 ?_
      refine tkW 15 ?_
      refine wpAnyL_end (i := 16) (by kernel_rfl) rfl (by kernel_rfl) (by kernel_rfl) (fun KK hK => ?_)
      go_simp
      refine hK.out _ _ ?_
      clear hK KK
      go_wp2_with fail
      exact ⟨⟨j + 1, by omega, by go_num, _, unhide HGO⟩, by simp [intOf]; omega⟩
    · have hj64 : j = 64 := by omega
      subst hj64
      have hI1 : ¬ ((64 : Nat) : Int) < 64 := by omega
      have HV : Hid (∃ v : Value, GrowAt zQ w pg po (.slice pp n cc) n id 64 v wr) := ⟨v, hs⟩
      clear hs
      go_wp2_with fail
      go_end0
      exact ⟨rfl, unhide HV⟩
end Go.Proofs.YtmgnlgobkkfjhaaGreatDoor.Kg
/- strings.Split (129) at a colon, whatever the length. -/
namespace Go.Proofs.YtmgnlgobkkfjhaaGreatDoor
open Go Go.ChangeShapes Go.WideShapes Go.ChangeAt Go.RowKit
set_option linter.unusedVariables false
theorem spl_byte : ∀ (l : List UInt8), 0 < l.count 58 → ∃ i : Nat, i < l.length ∧ Lib.indexByte l 58 = (i : Int) ∧ spl l = l.take i :: spl (l.drop (i + 1)) ∧ l.count 58 = (l.drop (i + 1)).count 58 + 1
  | [], h => by simp at h
  | c :: l, h => by
    by_cases hc : c = 58
    · subst hc
      exact ⟨0, by simp, by simp [Lib.indexByte], by simp [spl], by simp⟩
    · have h' : 0 < l.count 58 := by rw [List.count_cons_of_ne (by simpa using hc)] at h; exact h
      obtain ⟨i, h0, h1, h2, h3⟩ := spl_byte l h'
      refine ⟨i + 1, by simp; omega, ?_, ?_, ?_⟩
      · rw [Lib.indexByte, if_neg (by simpa using hc), h1, if_neg (by simp)]
        omega
      · rw [spl_cons hc h2]
        rfl
      · rw [List.count_cons_of_ne (by simpa using hc), h3]
        rfl
theorem spl_one : ∀ {l h : List UInt8}, spl l = [h] → h = l
  | [], h, e => by simp [spl] at e; exact e
  | c :: l, h, e => by
    by_cases hc : c = 58
    · rw [spl, if_pos hc] at e
      obtain ⟨a, t, e2⟩ := spl_ne l
      rw [e2] at e
      simp at e
    · obtain ⟨a, t, e2⟩ := spl_ne l
      rw [spl_cons hc e2] at e
      simp only [List.cons.injEq] at e
      obtain ⟨e3, e4⟩ := e
      subst e4
      rw [← e3, spl_one e2]
theorem ext_take (x : ByteArray) (i : Nat) : (x.extract 0 i).data.toList = x.data.toList.take i := by
  rw [ByteArray.data_extract, Array.toList_extract, List.extract_eq_take_drop, List.drop_zero, Nat.sub_zero]
theorem ext_drop (x : ByteArray) (i : Nat) : (x.extract i x.size).data.toList = x.data.toList.drop i := by
  rw [ByteArray.data_extract, Array.toList_extract, List.extract_eq_take_drop, List.take_of_length_le (by simp)]
theorem text_of {x : ByteArray} {l : List UInt8} (h : x.data.toList = l) : x = ⟨l.toArray⟩ := by
  obtain ⟨d⟩ := x
  simp only at h
  rw [← h]
/-- while a text is cut: so many parts lie in the new block -/
structure CutAt (w : World) (s x : ByteArray) (c j : Nat) (wr : World) : Prop where
  below : Below w.heap.size w wr
  lt : w.heap.size < wr.heap.size
  fz : ∀ k, wr.frozen? ⟨w.heap.size, k, none⟩ = false
  any : ∀ k, k < c + 1 → ∃ v, wr.cell? ⟨w.heap.size, k, none⟩ = some v
  cells : ∀ k, k < j → wr.cell? ⟨w.heap.size, k, none⟩ = some (.string ⟨((spl s.data.toList).getD k []).toArray⟩)
  rest : spl x.data.toList = (spl s.data.toList).drop j
  cnt : x.data.toList.count 58 + j = c
  le : x.size ≤ s.size
set_option maxRecDepth 100000 in
set_option maxHeartbeats 2000000 in
theorem genSplit_any (s : ByteArray) (hs : s.size < 4611686018427387904) (c : Nat) (hc : s.data.toList.count 58 = c) (hc6 : c < 6) (w : World) :
    Calls Tryz.prog 248 #[.string s, .string ⟨#[58]⟩, .int .i64 0, .int .i64 (-1)] w fun e w' => e = .returned (.slice (some ⟨w.heap.size, 0, none⟩) (c + 1) (c + 1)) ∧ Below w.heap.size w w' ∧ ∀ k, k < c + 1 → w'.cell? ⟨w.heap.size, k, none⟩ = some (.string ⟨((spl s.data.toList).getD k []).toArray⟩) := by
  have d1 := hide (Tryz.strings_Count_one s 58 w)
  have hcb : Lib.countByte s.data.toList 58 = c := hc
  rw [hcb] at d1
  have hcl : c ≤ s.size := by rw [← hc]; have := List.count_le_length (a := (58 : UInt8)) (l := s.data.toList); simpa using this
  have hmin : min ((c : Int) + 1) ((s.size : Int) + 1) = (c : Int) + 1 := by omega
  obtain ⟨i0, hi, hz0, hz1, hz2⟩ := info_parts info9
  have hmk0 := run_make (P := Tryz.prog) w 104 9 i0 _ Tryz.underlying104 hi hz0 .i64 .i64 ((c : Int) + 1) ((c : Int) + 1) (by omega) (by omega) (by rw [hz2]; omega) (by omega)
  have ec : ((c : Int) + 1).toNat = c + 1 := by omega
  rw [ec] at hmk0
  obtain ⟨W1, hmk, hcut⟩ : ∃ W1, (Instr.makeSlice 104 (.int .i64 ((c : Int) + 1)) (.int .i64 ((c : Int) + 1))).run Tryz.prog w = .ok (.slice (some ⟨w.heap.size, 0, none⟩) (c + 1) (c + 1)) W1 ∧ Hid (CutAt w s s c 0 W1) := by
    refine ⟨_, hmk0, (Below.refl _ _).alloc (Nat.le_refl _) _, by simp, fun k => by simp, fun k hk => ?_, fun k hk => by omega, rfl, by omega, Nat.le_refl _⟩
    rw [World.cell?_alloc_mark]
    exact ⟨_, Array.getElem?_eq_getElem (by rw [size_madeCells, hz1]; omega)⟩
  clear hi hz0 hz1 hz2 hmk0 ec
  have hI6 : (c : Int) + 1 - 1 = (c : Int) := by omega
  go_enter Tryz.func248, Tryz.ntmps248
  go_wp2_with fail
  refine (unhide d1).mono ?_
  rintro e w1 ⟨rfl, hw⟩
  rw [hw]
  clear hw w1
  go_wp2_with fail
  go_loopw [0, 10] (fun vs vi wr => ∃ (x : ByteArray) (j : Nat), vs = .string x ∧ vi = .int .i64 (j : Int) ∧ CutAt w s x c j wr) (fun _ vi _ => c - (intOf vi).toNat)
  case atStart => exact ⟨s, 0, rfl, rfl, unhide hcut⟩
  case round =>
    obtain ⟨x, j, rfl, rfl, hC⟩ := hrel
    have HC := hide hC
    have hcnt := hC.cnt
    have hxs := hC.le
    by_cases hlt : j < c
    · obtain ⟨i, hi0, hi1, hi2, hi3⟩ := spl_byte x.data.toList (by omega)
      have hil : i < x.size := by simpa using hi0
      have dI := hide (Tryz.strings_Index_one x 58 wr)
      rw [hi1] at dI
      have hI : (j : Int) < (c : Int) := by omega
      obtain ⟨v0, hv0⟩ := hC.any j (by omega)
      have hfz := hC.fz j
      have H2 := hide hi2
      have H3 := hide hi3
      have hII : (i : Int) ≤ (x.size : Int) := by omega
      have hII1 : (i : Int) + 1 ≤ (x.size : Int) := by omega
      clear hC hi0 hi1 hi2 hi3 hcut hcnt
      go_wp2_with fail
      refine (unhide dI).mono ?_
      rintro e w1 ⟨rfl, hw⟩
      rw [hw]
      clear hw w1
      go_wp2_with fail
      have hC := unhide HC
      have h2 := unhide H2
      have h3 := unhide H3
      have hcnt := hC.cnt
      have hr := hC.rest
      rw [h2] at hr
      have hjl : j < (spl s.data.toList).length := by rw [spl_len]; omega
      have hget : (spl s.data.toList).getD j [] = x.data.toList.take i := by
        have e := congrArg List.head? hr
        rw [List.head?_drop] at e
        simp only [List.head?_cons] at e
        rw [List.getD, ← e]
        rfl
      refine ⟨⟨_, j + 1, rfl, by go_num, hC.below.setCell (Nat.le_refl _) _, by simpa using hC.lt, fun k => by simpa using hC.fz k, fun k hk => ?_, fun k hk => ?_, ?_, ?_, ?_⟩, by simp [intOf]; omega⟩
      · by_cases e : k = j
        · subst e
          exact ⟨_, World.cell?_setCell_same _ _ _ hv0⟩
        · rw [World.cell?_setCell_other _ _ _ _ (by intro h'; injection h' with _ h' _; omega)]
          exact hC.any k hk
      · by_cases e : k = j
        · subst e
          rw [World.cell?_setCell_same _ _ _ hv0, hget, text_of (ext_take x i)]
        · rw [World.cell?_setCell_other _ _ _ _ (by intro h'; injection h' with _ h' _; omega)]
          exact hC.cells k (by omega)
      · rw [ext_drop]
        have e := congrArg (List.drop 1) hr
        rw [List.drop_drop] at e
        exact e
      · rw [ext_drop]; omega
      · have h := congrArg List.length (ext_drop x (i + 1))
        have h' : (x.extract (i + 1) x.size).size = (x.data.toList.drop (i + 1)).length := by rw [← h]; simp
        rw [h', List.length_drop]
        simp
        omega
    · have hjc : j = c := by omega
      subst hjc
      have hI : ¬ (j : Int) < (j : Int) := by omega
      obtain ⟨v0, hv0⟩ := hC.any j (by omega)
      have hfz := hC.fz j
      clear hC hcut
      go_wp2_with fail
      go_ret
      have hC := unhide HC
      have hr := hC.rest
      have hx : spl x.data.toList = [x.data.toList] := by
        obtain ⟨h, t, e⟩ := spl_ne x.data.toList
        have hl := spl_len x.data.toList
        rw [e] at hl
        have ht : t = [] := by
          have hk := hC.cnt
          have : t.length = 0 := by rw [List.length_cons] at hl; omega
          exact List.eq_nil_of_length_eq_zero this
        subst ht
        rw [e]
        exact congrArg (fun y => [y]) (spl_one e)
      rw [hx] at hr
      have hget : (spl s.data.toList).getD j [] = x.data.toList := by
        have e := congrArg List.head? hr
        rw [List.head?_drop] at e
        simp only [List.head?_cons] at e
        rw [List.getD, ← e]
        rfl
      refine ⟨by simp, hC.below.setCell (Nat.le_refl _) _, fun k hk => ?_⟩
      by_cases e : k = j
      · subst e
        rw [World.cell?_setCell_same _ _ _ hv0]
        show _ = some (Value.string ⟨((spl s.data.toList).getD k []).toArray⟩)
        rw [hget, ← text_of (x := x) rfl]
      · rw [World.cell?_setCell_other _ _ _ _ (by intro h'; injection h' with _ h' _; omega)]
        exact hC.cells k (by omega)
set_option maxHeartbeats 1000000 in
theorem split_any (s : ByteArray) (hs : s.size < 4611686018427387904) (c : Nat) (hc : s.data.toList.count 58 = c) (hc6 : c < 6) (w : World) :
    Calls Tryz.prog 211 #[.string s, .string ⟨#[58]⟩] w fun e w' => e = .returned (.slice (some ⟨w.heap.size, 0, none⟩) (c + 1) (c + 1)) ∧ Below w.heap.size w w' ∧ ∀ k, k < c + 1 → w'.cell? ⟨w.heap.size, k, none⟩ = some (.string ⟨((spl s.data.toList).getD k []).toArray⟩) := by
  have d := hide (genSplit_any s hs c hc hc6 w)
  go_enter Tryz.func211, Tryz.ntmps211
  go_wp2_with fail
  refine (unhide d).mono ?_
  rintro e w1 ⟨rfl, hb, hcell⟩
  have HB := hide (And.intro hb hcell)
  clear hb hcell
  go_wp2_with fail
  go_ret
  exact ⟨rfl, unhide HB⟩
end Go.Proofs.YtmgnlgobkkfjhaaGreatDoor
/- The document's Key, Memo, Tag, Name; names.IsAccount, IsRoot and the document's Root. -/
namespace Go.Proofs.YtmgnlgobkkfjhaaGreatDoor
open Go Go.ChangeShapes Go.WideShapes Go.ChangeAt Go.RowKit
set_option linter.unusedVariables false
/-- a tag byte by byte: the first one a letter -/
def tagI (s : ByteArray) (k : Nat) (c : Nat) : Bool := tagB c && (!decide (k = 0) || loB c)
set_option maxRecDepth 100000 in
set_option maxHeartbeats 4000000 in
set_option maxRecDepth 100000 in
set_option maxHeartbeats 4000000 in
set_option maxRecDepth 100000 in
set_option maxHeartbeats 4000000 in
theorem drop_byte {s : ByteArray} {k : Nat} (h : k < s.size) : s.data.toList.drop k = s[k] :: s.data.toList.drop (k + 1) := by
  have h' : k < s.data.toList.length := by simpa using h
  have e := List.drop_eq_getElem_cons h'
  rw [e]
  simp
  rfl
theorem nm_step (parts size : Nat) (c : UInt8) (l : List UInt8) : nm parts size (c :: l) = if c = 58 then (if size = 0 then false else nm (parts + 1) 0 l) else if (size = 0 ∧ upB c.toNat = false) ∨ partB c.toNat = false then false else if 16 < size + 1 then false else nm parts (size + 1) l := rfl
theorem spl_le : ∀ (l p : List UInt8), p ∈ spl l → p.length ≤ l.length
  | [], p, h => by simp [spl] at h; subst h; simp
  | c :: l, p, h => by
    by_cases hc : c = 58
    · rw [spl, if_pos hc] at h
      rcases List.mem_cons.1 h with h | h
      · subst h; simp
      · have := spl_le l p h; simp; omega
    · obtain ⟨a, t, e⟩ := spl_ne l
      rw [spl_cons hc e] at h
      have ha := spl_le l a (by rw [e]; exact List.mem_cons_self)
      rcases List.mem_cons.1 h with h | h
      · subst h; simp; omega
      · have := spl_le l p (by rw [e]; exact List.mem_cons_of_mem _ h); simp; omega
set_option maxRecDepth 100000 in
set_option maxHeartbeats 4000000 in
theorem isAccount_any (s : ByteArray) (hs : s.size < 4611686018427387904) (w : World) : Calls Tryz.prog 154 #[.string s] w fun e w' => e = .returned (.bool (nameL s.data.toList)) ∧ Below w.heap.size w w' := by
  have d1 := hide (Tryz.strings_Count_one s 58 w)
  obtain ⟨c, hc⟩ : ∃ c, s.data.toList.count 58 = c := ⟨_, rfl⟩
  have hcb : Lib.countByte s.data.toList 58 = c := hc
  rw [hcb] at d1
  have hnm := hide (show nameL s.data.toList = (decide (s.data.toList.count 58 < 6) && (spl s.data.toList).all partL) from rfl)
  rw [hc] at hnm
  obtain ⟨xs, hxs⟩ : ∃ xs, xs = spl s.data.toList := ⟨_, rfl⟩
  have hlen : Hid (xs.length = c + 1) := by rw [hxs, spl_len, hc]; rfl
  have hsz : Hid (∀ k (hk : k < xs.length), (⟨(xs[k]).toArray⟩ : ByteArray).size ≤ 9223372036854775807) := fun k hk => by
    have h1 : xs[k] ∈ spl s.data.toList := by rw [← hxs]; exact List.getElem_mem hk
    have h2 := spl_le _ _ h1
    have h3 : s.data.toList.length = s.size := by simp
    have h4 : (⟨(xs[k]).toArray⟩ : ByteArray).size = (xs[k]).length := by simp [ByteArray.size]
    omega
  rw [← hxs] at hnm
  have hpl : ∀ l : List UInt8, partS ⟨l.toArray⟩ = partL l := fun l => partS_eq _
  have HPL := hide hpl
  clear hpl
  by_cases h6 : c < 6
  · have d2 := hide (split_any s hs c hc h6 w)
    rw [← hxs] at d2
    have i6 : ¬ (6 : Int) ≤ (c : Int) := by omega
    rw [decide_eq_true h6] at hnm
    clear hc hcb hxs
    go_enter Tryz.func154, Tryz.ntmps154
    go_wp2_with fail
    refine (unhide d1).mono ?_
    rintro e w1 ⟨rfl, hw⟩
    rw [hw]
    clear hw w1
    go_wp2_with fail
    refine (unhide d2).mono ?_
    rintro e w1 ⟨rfl, hb1, hce1⟩
    have B1 := hide hb1
    have hcell1 : Hid (∀ k (hk : k < xs.length), w1.cell? ⟨w.heap.size, k, none⟩ = some (.string ⟨(xs[k]).toArray⟩)) := fun k hk => by
      rw [hce1 k (by have := unhide hlen; omega)]
      simp [List.getD, hk]
    clear hb1 hce1
    go_wp2_with fail
    go_loopw [11, 4] (fun vi v4 wr => ∃ k : Nat, k ≤ c + 1 ∧ vi = .int .i64 k ∧ (∀ j (hj : j < xs.length), j < k → partL xs[j] = true) ∧ wr = w1) (fun i _ _ => c + 1 - (RowKit.intOf i).toNat)
    case atStart => exact ⟨0, by omega, rfl, fun j hj h => by omega, rfl⟩
    case round =>
      obtain ⟨k, hk, rfl, hd, rfl⟩ := hrel
      have H := hide hd
      clear hd
      have hl := unhide hlen
      by_cases hlt : k < c + 1
      · have hI : (k : Int) < (c : Int) + 1 := by omega
        have hI0 : (0 : Int) ≤ (k : Int) := by omega
        have hkx : k < xs.length := by omega
        have HK := hide hkx
        obtain ⟨X, hX, hce, dp⟩ : ∃ X, (⟨(xs[k]'hkx).toArray⟩ : ByteArray) = X ∧ wr.cell? ⟨w.heap.size, k, none⟩ = some (.string X) ∧ Hid (∀ W, Calls Tryz.prog 212 #[.string X] W fun e w' => e = .returned (.bool (partS X)) ∧ w' = W) := ⟨_, rfl, unhide hcell1 k hkx, isPart_any _ (unhide hsz k hkx)⟩
        have HX := hide hX
        have HPX : Hid (partS X = partL (xs[k]'hkx)) := by rw [← hX]; exact unhide HPL _
        clear hX hl
        by_cases hp : partS X = true
        · rw [hp] at dp HPX
          go_wp2_with fail
          refine (unhide dp wr).mono ?_
          rintro e w2 ⟨rfl, hw⟩
          rw [hw]
          clear hw w2
          go_wp2_with fail
          refine ⟨⟨k + 1, by omega, by go_num, ?_, trivial⟩, by simp [RowKit.intOf]; omega⟩
          intro j hj hjk
          by_cases e : j = k
          · subst e; exact (unhide HPX).symm
          · exact unhide H j hj (by omega)
        · have hp' : partS X = false := by simpa using hp
          rw [hp'] at dp HPX
          have hno : Hid (nameL s.data.toList = false) := by
            rw [unhide hnm]
            have : xs.all partL = false := List.all_eq_false.2 ⟨xs[k]'(unhide HK), List.getElem_mem _, by rw [← unhide HPX]; simp⟩
            rw [this]
            rfl
          go_wp2_with fail
          refine (unhide dp wr).mono ?_
          rintro e w2 ⟨rfl, hw⟩
          rw [hw]
          clear hw w2
          go_wp2_with fail
          go_ret
          exact ⟨by rw [unhide hno]; rfl, unhide B1⟩
      · have hkl : k = c + 1 := by omega
        have hI : ¬ (k : Int) < (c : Int) + 1 := by omega
        have hyes : Hid (nameL s.data.toList = true) := by
          rw [unhide hnm]
          have : xs.all partL = true := List.all_eq_true.2 fun x hx => by
            obtain ⟨i, hi, rfl⟩ := List.getElem_of_mem hx
            exact unhide H i hi (by omega)
          rw [this]
          rfl
        clear hkl hl
        go_wp2_with fail
        go_ret
        exact ⟨by rw [unhide hyes]; rfl, unhide B1⟩
  · have i6 : (6 : Int) ≤ (c : Int) := by omega
    rw [decide_eq_false h6] at hnm
    clear hc hcb hxs
    go_enter Tryz.func154, Tryz.ntmps154
    go_wp2_with fail
    refine (unhide d1).mono ?_
    rintro e w1 ⟨rfl, hw⟩
    rw [hw]
    clear hw w1
    go_wp2_with fail
    go_ret
    exact ⟨by rw [unhide hnm]; rfl, Below.refl _ _⟩
theorem root_index (l : List UInt8) : decide (0 ≤ Lib.indexByte l 58) = l.contains 58 := by
  induction l with
  | nil => rfl
  | cons a l ih =>
    have hg := Lib.indexByte_ge l 58
    rw [Lib.indexByte, List.contains_cons, ← ih]
    by_cases ha : a = 58
    · subst ha
      rfl
    · rw [if_neg (by simpa using ha)]
      have h2 : ((58 : UInt8) == a) = false := by simpa using fun e => ha e.symm
      rw [h2, Bool.false_or]
      by_cases h3 : Lib.indexByte l 58 = -1
      · rw [h3]; rfl
      · rw [if_neg (by simpa using h3)]
        have h4 : 0 ≤ Lib.indexByte l 58 := by omega
        have h5 : 0 ≤ Lib.indexByte l 58 + 1 := by omega
        rw [decide_eq_true h4, decide_eq_true h5]
/-- a name of one part -/
def rootS (s : ByteArray) : Bool := !s.data.toList.contains 58
end Go.Proofs.YtmgnlgobkkfjhaaGreatDoor
