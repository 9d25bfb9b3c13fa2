import Derived.Test.YtdeibifjiefapaaGreatDoorW30
import Derived.Test.YtdeibifjiefapaaGreatDoorW21
import Derived.Laws.StructEq
import Derived.Deep.RegionHeld3
import Derived.Deep.RegionLaw
/- The kinds of elements that the chart's laws keep: accounts, texts. -/
namespace Go.Proofs.YtdeibifjiefapaaGreatDoor.Kg
open Go Go.Shelf Go.ChangeShapes Go.WideShapes Go.ChangeAt Go.RowKit Go.Maps
set_option linter.unusedVariables false
structure Am where
  acc : ByteArray
  typ : Int
  day : Int
  cls : Bool
def Am.vals (x : Am) : List Value := [.string x.acc, .int .i64 x.typ, .int .i64 x.day, .bool x.cls]
def kD : Kd Am := ⟨Am.vals, 4, 22, 65, 40⟩
theorem kD_ok : KdOK kD := kd_ok (fun _ => rfl) (by decide) (fun x u hu => by simp [kD, Am.vals] at hu; rcases hu with rfl | rfl | rfl | rfl <;> rfl) Tryz.underlying22 (z := .agg #[.string ⟨#[]⟩, .int .i64 0, .int .i64 0, .bool false]) (by kernel_rfl) rfl (by decide)
def toD (x : Ac) : Am := ⟨txN x.nm, x.ty, x.dy, x.cl⟩
theorem flatD (L : List Ac) : kD.flat (L.map toD) = kA.flat L := by
  unfold Kd.flat
  rw [List.flatMap_map]
  rfl
structure Tm where
  txt : ByteArray
def Tm.vals (x : Tm) : List Value := [.string x.txt]
def kX : Kd Tm := ⟨Tm.vals, 1, 85, 9, 16⟩
theorem kX_ok : KdOK kX := kd_ok (fun _ => rfl) (by decide) (fun x u hu => by simp [kX, Tm.vals] at hu; rcases hu with rfl; rfl) Tryz.underlying85 (z := .string ⟨#[]⟩) (by kernel_rfl) rfl (by decide)
def toX (x : Nm) : Tm := ⟨txN x⟩
theorem flatX (L : List Nm) : kX.flat (L.map toX) = kT.flat L := by
  unfold Kd.flat
  rw [List.flatMap_map]
  rfl
theorem cell_at {W : World} {b i : Nat} {xs : Array Value} {t : TypeId} {f : Nat × Nat} (h : W.heap[b]? = some (.cells xs t f)) : W.cell? ⟨b, i, none⟩ = xs[i]? := by simp [World.cell?, h]
theorem froz_at {W : World} {b i : Nat} {xs : Array Value} {t : TypeId} (h : W.heap[b]? = some (.cells xs t (0, 0))) : W.frozen? ⟨b, i, none⟩ = false := by simp [World.frozen?, h]
theorem heap_new (w : World) (o : Obj) : (w.alloc o).heap[w.heap.size]? = some o := by
  show (w.heap.push o)[w.heap.size]? = _
  simp
theorem step_append_run {P : Program} {ops : Array Oper} {o : Oper} {a : Act} {K : Act → World → Prop} {Q : Exit → Act → World → Prop} {E : Prop} (w : World) (hgd : o.guard = none) (s x : Operand) (t : TypeId)
    (ho : o.op = .call { callee := .builtin .append, args := #[s, x], argTypes := #[t, t] }) (v u v' : Value) (w' : World) (hs : a.eval s = v) (hx : a.eval x = u) (hr : (Builtin.append_ #[t, t] o.type #[v, u]).run P w = .ok v' w')
    (h : K (a.put o.dst v') w') : if Region.wanted o (yielded ops a.tmps) = true then Oper.wp P o a w K Q else E := by
  have hw : Region.wanted o (yielded ops a.tmps) = true := by simp [Region.wanted, hgd]
  rw [if_pos hw]
  unfold Oper.wp execOp
  simp only [ho, resolve, invoke, builtin, Sem.run_bind, Sem.run_pure, Result.andThen_ok, List.map_toArray, List.map_cons, List.map_nil, hs, hx, hr]
  exact h
end Go.Proofs.YtdeibifjiefapaaGreatDoor.Kg
/- The keeper's pages of accounts: mark (75), same (79), fill (98), grow (99). By tools/genkc.py. -/
namespace Go.Proofs.YtdeibifjiefapaaGreatDoor.Kg
open Go Go.Shelf Go.ChangeShapes Go.WideShapes Go.ChangeAt Go.RowKit Go.Maps
set_option linter.unusedVariables false
set_option linter.unusedSimpArgs false
def ldKD (x : Value) : Sem Value := Instr.loadAt 65 x
theorem ldKD_is (x : Value) : Instr.loadAt 65 x = ldKD x := rfl
theorem sizKD : (Tryz.prog.info? 65).map (·.size) = some 4 := by kernel_rfl
def cvD (x : Am) : Value := .agg #[.string x.acc, .int .i64 x.typ, .int .i64 x.day, .bool x.cls]
theorem run_ldKD {w : World} {b o : Nat} {x : Am} (h : w.rangeAt b o x.vals) : (ldKD (.pointer (some ⟨b, o, none⟩))).run Tryz.prog w = .ok (cvD x) w :=
  run_loadAt_mid (P := Tryz.prog) w b o 65 x.vals _ h Tryz.underlying65 rfl sizKD
def stKD (x y : Value) : Sem Unit := Instr.storeAt 65 x y
theorem stKD_is (x y : Value) : Instr.storeAt 65 x y = stKD x y := rfl
theorem run_stKD {w : World} {b o : Nat} (h : w.there b o 4) (x : Am) : (stKD (.pointer (some ⟨b, o, none⟩)) (cvD x)).run Tryz.prog w = .ok () (w.setCells b o x.vals) :=
  run_storeAt_mid (P := Tryz.prog) w b o 65 #[.string x.acc, .int .i64 x.typ, .int .i64 x.day, .bool x.cls] h sizKD (by simp [Value.oneCell'])
def mkD (id k : Nat) : Am := ⟨mkS id k, -(k : Int) - 1, 0, false⟩
def zD : Kk Am := ⟨kD, mkD, 114, 44, 8⟩
theorem zD_ok : KkOK zD := by
  refine ⟨kD_ok, Tryz.underlying44, ?_, by decide⟩
  have h : (Tryz.prog.info? 114).map (fun i => (i.zero.map (fun z => z.cells.size), i.size, i.bytes)) = some (some 5, 5, 88) := by kernel_rfl
  obtain ⟨i, hi, hzz⟩ := Option.map_eq_some_iff.1 h
  simp only [Prod.mk.injEq] at hzz
  obtain ⟨z, hz, hs⟩ := Option.map_eq_some_iff.1 hzz.1
  exact ⟨i, z, hi, hz, hs, hzz.2.1, hzz.2.2⟩
theorem retD {tmps : Array Value} {w : World} {b : Nat} {x : Am} (hp : tmps[4]?.getD undef = .pointer (some ⟨b, 0, none⟩)) (h : w.heap[b]? = some (.cells #[.string x.acc, .int .i64 x.typ, .int .i64 x.day, .bool x.cls] 65 (0, 0))) :
    (results Tryz.f75 tmps).run Tryz.prog w = .ok (cvD x) w := by
  have q0 : w.cell? ⟨b, 0, none⟩ = some (.string x.acc) := by rw [cell_at h]; rfl
  have q1 : w.cell? ⟨b, 1, none⟩ = some (.int .i64 x.typ) := by rw [cell_at h]; rfl
  have q2 : w.cell? ⟨b, 2, none⟩ = some (.int .i64 x.day) := by rw [cell_at h]; rfl
  have q3 : w.cell? ⟨b, 3, none⟩ = some (.bool x.cls) := by rw [cell_at h]; rfl
  simp [results, hp, asAddr, go_sem, q0, q1, q2, q3, cvD]
set_option maxRecDepth 100000 in
set_option maxHeartbeats 2000000 in
theorem markD (id k : Nat) (hid : id < 1000000) (hk : k < 1000000) (w : World) (h : Pw w) : Calls Tryz.prog 75 #[.int .i64 (id : Int), .int .i64 (k : Int)] w fun e w' => e = .returned (cvD (mkD id k)) ∧ Below w.heap.size w w' := by
  obtain ⟨w1, hw1⟩ : ∃ w1, w1 = w.alloc (.cells #[.string ⟨#[]⟩, .int .i64 0, .int .i64 0, .bool false] 65) := ⟨_, rfl⟩
  have b1 : Below w.heap.size w w1 := by rw [hw1]; exact bal (Below.refl _ _) _
  have z1 : w1.heap.size = w.heap.size + 1 := by rw [hw1]; simp
  have d := hide (text_any id k hid hk w1 (h.below b1))
  have hR1 : w1.heap[w.heap.size]? = some (.cells #[.string ⟨#[]⟩, .int .i64 0, .int .i64 0, .bool false] 65 (0, 0)) := by rw [hw1]; exact heap_new _ _
  have HR := hide hR1
  have H1 := hide hw1
  have B1 := hide b1
  have s0 : -9223372036854775808 ≤ -(k : Int) := by omega
  have s1 : -(k : Int) ≤ 9223372036854775807 := by omega
  have s2 : -9223372036854775808 ≤ -(k : Int) - 1 := by omega
  have s3 : -(k : Int) - 1 ≤ 9223372036854775807 := by omega
  clear h hw1 b1 hR1
  go_enter Tryz.func75, Tryz.ntmps75
  go_wp2_with fail
  rw [← unhide H1]
  refine (unhide d).mono ?_
  rintro e w2 ⟨rfl, hg⟩
  have hb2 := hg.below
  have hR2 := (hb2.block w.heap.size (by omega)).trans (unhide HR)
  have q0 : w2.cell? ⟨w.heap.size, 0, none⟩ = some (.string ⟨#[]⟩) := by rw [cell_at hR2]; rfl
  have f0 : w2.frozen? ⟨w.heap.size, 0, none⟩ = false := froz_at hR2
  have q1 : w2.cell? ⟨w.heap.size, 1, none⟩ = some (.int .i64 0) := by rw [cell_at hR2]; rfl
  have f1 : w2.frozen? ⟨w.heap.size, 1, none⟩ = false := froz_at hR2
  have q2 : w2.cell? ⟨w.heap.size, 2, none⟩ = some (.int .i64 0) := by rw [cell_at hR2]; rfl
  have f2 : w2.frozen? ⟨w.heap.size, 2, none⟩ = false := froz_at hR2
  have q3 : w2.cell? ⟨w.heap.size, 3, none⟩ = some (.bool false) := by rw [cell_at hR2]; rfl
  have f3 : w2.frozen? ⟨w.heap.size, 3, none⟩ = false := froz_at hR2
  have HR2 := hide hR2
  have B2 : Hid (Below w.heap.size w w2) := (unhide B1).trans (hb2.mono (unhide B1).size)
  clear hg hb2 hR2
  go_wp2_with fail
  refine bodyPost_ret (retD (b := w.heap.size) (x := mkD id k) (by rfl) ?_) rfl ⟨rfl, ?_⟩
  · rw [Go.heap_setCell_same _ _ _ _ _ _ (Go.heap_setCell_same _ _ _ _ _ _ (Go.heap_setCell_same _ _ _ _ _ _ (Go.heap_setCell_same _ _ _ _ _ _ (unhide HR2))))]
    rfl
  · exact ((((unhide B2).setCell (p := ⟨w.heap.size, 0, none⟩) (Nat.le_refl _) _).setCell (p := ⟨w.heap.size, 1, none⟩) (Nat.le_refl _) _).setCell (p := ⟨w.heap.size, 2, none⟩) (Nat.le_refl _) _).setCell (p := ⟨w.heap.size, 3, none⟩) (Nat.le_refl _) _
set_option maxRecDepth 100000 in
set_option maxHeartbeats 2000000 in
theorem eqkD (x : Am) (w : World) : Calls Tryz.prog 79 #[cvD x, cvD x] w fun e w' => e = .returned (.bool true) ∧ Below w.heap.size w w' := by
  have sd : Tryz.prog.underlying 65 = some (.struct (Tryz.prog.fieldsOf 65)) := by kernel_rfl
  have sh : Tryz.prog.stoodInHeld 65 = false := by kernel_rfl
  have eg : Tryz.prog.eqGuardType Tryz.prog.depth 65 = false := by kernel_rfl
  have heq : ∀ w, (Op.equalIn 10000 65 (.agg #[.string x.acc, .int .i64 x.typ, .int .i64 x.day, .bool x.cls]) (.agg #[.string x.acc, .int .i64 x.typ, .int .i64 x.day, .bool x.cls])).run Tryz.prog w = .ok true w := fun w => by
    rw [run_equalIn_agg w 9999 65 _ _ sd sh]
    have fl : (Tryz.prog.fieldsOf 65).toList.map (fun f => (f.type, f.offset, f.name == "_")) = [(9, 0, false), (3, 1, false), (3, 2, false), (4, 3, false)] := by kernel_rfl
    obtain ⟨f0, f1, f2, f3, hf⟩ : ∃ f0 f1 f2 f3, (Tryz.prog.fieldsOf 65).toList = [f0, f1, f2, f3] := by
      have h := congrArg List.length fl
      rw [List.length_map] at h
      match hq : (Tryz.prog.fieldsOf 65).toList, h with
      | [f0, f1, f2, f3], _ => exact ⟨f0, f1, f2, f3, rfl⟩
    have h := fl
    rw [hf] at h ⊢
    simp at h
    simp [Op.eqFields, go_sem, h, Tryz.underlying9, Tryz.underlying2, Tryz.underlying3, Tryz.underlying4]
  unfold cvD
  go_enter Tryz.func79, Tryz.ntmps79
  go_wp2_with fail
  go_ret
  exact ⟨rfl, bal (bal (Below.refl _ _) _) _⟩
attribute [local go_sem ↓] ldKD_is stKD_is
set_option maxRecDepth 100000 in
set_option maxHeartbeats 2000000 in
theorem fillD : FillC zD 98 := by
  intro pg po L n id X w hn hid hX hown hne h1 hL hI hD hDf hP
  have HF0 : Hid (FillAt zD w w L n id X 0) := FillAt.start hown
  have hpg : pg < w.heap.size := World.block_lt_of_cell? w ⟨pg, po, none⟩ hL
  obtain ⟨pp, cc, eL, _⟩ := row_slice hown
  subst eL
  have HL := hide hL; have HI := hide hI; have HD := hide hD; have HDF := hide hDf; have HPW := hide hP; have HX := hide hX; have HNE := hide hne; have H1 := hide h1
  clear hL hI hD hDf hP hown hX hne h1
  go_enter Tryz.func98, Tryz.ntmps98
  have l0 := unhide HL
  go_wp2_with fail
  clear l0
  go_loopw [2] (fun i wr => ∃ k : Nat, k ≤ n ∧ i = .int .i64 (k : Int) ∧ Hid (FillAt zD w wr (.slice pp n cc) n id X k)) (fun i _ => n - (intOf i).toNat)
  case atStart => exact ⟨0, by omega, rfl, unhide HF0⟩
  case round =>
    obtain ⟨k, hk, rfl, HS⟩ := hrel
    have hs := unhide HS
    have l1 : wr.cell? ⟨pg, po, none⟩ = some (.slice pp n cc) := (hs.gr.cell_far ⟨pg, po, none⟩ hpg (fun e => unhide HNE e.symm)).trans (unhide HL)
    have l2 : wr.cell? ⟨pg, po + 3, none⟩ = some (.int .i64 (id : Int)) := (hs.gr.cell_far ⟨pg, po + 3, none⟩ hpg (fun e => unhide HNE e.symm)).trans (unhide HI)
    clear HF0
    by_cases hlk : k < n
    · obtain ⟨gb, c', e⟩ := own_open hs.own (by omega)
      injection e with e1 _ e2
      subst e1 e2
      have hpr : pg < wr.heap.size := Nat.lt_of_lt_of_le hpg hs.gr.size
      have hI1 : (k : Int) < (n : Int) := by omega
      have hI0 : (0 : Int) ≤ (k : Int) := by omega
      have hmk := hide (markD id k (by omega) (by omega) wr.drew ((unhide HPW).keep (hs.gr.block 1 (unhide HPW).lt (fun e => unhide H1 e.symm))))
      have HST : Hid (∀ w2, Below wr.heap.size wr w2 → (stKD (.pointer (some ⟨gb, k * 4, none⟩)) (cvD (mkD id k))).run Tryz.prog w2 = .ok () (w2.setCells gb (k * 4) (mkD id k).vals) ∧ FillAt zD w (w2.setCells gb (k * 4) (mkD id k).vals) (.slice (some ⟨gb, 0, none⟩) n cc) n id X (k + 1)) := fun w2 hb =>
        ⟨run_stKD (own_there (K := kD) kD_ok (hs.below hb).own hlk) (mkD id k), (hs.below hb).step kD_ok (unhide HX) hlk⟩
      have hpgb : pg ≠ gb := fun e => unhide HNE (by rw [e]; rfl)
      have HFAR : Hid (∀ (w2 : World) i u, w2.cell? ⟨pg, i, none⟩ = some u → (w2.setCells gb (k * 4) (mkD id k).vals).cell? ⟨pg, i, none⟩ = some u) := fun w2 i u h => (World.cell?_of_block (setCells_far gb hpgb _ _ _)).trans h
      clear hs
      obtain ⟨vm, hvm⟩ : ∃ vm, vm = cvD (mkD id k) := ⟨_, rfl⟩
      rw [← hvm] at hmk HST
      clear hvm
      go_wp2_with fail
      go_region_held3 (fun W => W.cell? ⟨pg, po, none⟩ = some (.slice (some ⟨gb, 0, none⟩) n cc) ∧ W.cell? ⟨pg, po + 3, none⟩ = some (.int .i64 (id : Int))) (first | (refine ⟨?_, ?_⟩ <;> with_reducible assumption) | go_keep) ((go_at_call 75; refine (unhide hmk).mono ?_; rintro e w2 ⟨rfl, hb⟩; have B2 : Hid (Below wr.heap.size wr w2) := ⟨hb.os, hb.tape, hb.output, hb.size, hb.block⟩; have q1 := keep1 (unhide B2) hpr l1; have q2 := keep1 (unhide B2) hpr l2; have hst := (unhide HST w2 (unhide B2)).1; have q3 := unhide HFAR w2 _ _ q1; have q4 := unhide HFAR w2 _ _ q2; clear hb))
      all_goals
        go_wp2_with fail
        refine ⟨⟨k + 1, by omega, by go_num, (unhide HST w2 (unhide B2)).2⟩, by simp [intOf]; omega⟩
    · have hkn : k = n := by omega
      subst hkn
      have hI1 : ¬ (k : Int) < (k : Int) := by omega
      obtain ⟨vd, hvd⟩ := unhide HD
      have l3 : wr.cell? ⟨pg, po + 4, none⟩ = some vd := (hs.gr.cell_far ⟨pg, po + 4, none⟩ hpg (fun e => unhide HNE e.symm)).trans hvd
      have l4 : wr.frozen? ⟨pg, po + 4, none⟩ = false := (hs.gr.frozen_far ⟨pg, po + 4, none⟩ hpg (fun e => unhide HNE e.symm)).trans (unhide HDF)
      clear hs hvd
      go_wp2_with fail
      go_end0
      exact ⟨rfl, wr, unhide HS, rfl⟩
set_option maxRecDepth 100000 in
set_option maxHeartbeats 8000000 in
theorem growD : GrowC zD 99 := by
  intro pg po L n id w hn hid hown hne h1 hp1 hL hG hGf hI hP
  have hLat : ∀ b, L.ownBlock = some b → b < w.heap.size ∧ ∃ c, L = .slice (some ⟨b, 0, none⟩) n c := fun b hb => own_at hown hb
  have G0 : Hid (GrowAt zD w pg po L n id 0 L (w.setCell ⟨pg, po + 1, none⟩ L)) := GrowAt.begin kD_ok hne hown
  have hpg : pg < w.heap.size := World.block_lt_of_cell? w ⟨pg, po, none⟩ hL
  obtain ⟨pp, cc, eL, _⟩ := row_slice hown
  obtain ⟨u, hu⟩ := hG
  have HU := hide hu; have HID := hide hI; have HGF := hide hGf; have HPW := hide hP; have HNE := hide hne; have H1 := hide h1; have HLA := hide hLat
  subst eL
  clear hP hown hne h1 hLat
  go_enter Tryz.func99, Tryz.ntmps99
  go_wp2_with fail
  clear hL hI hu hGf
  go_loopw [2] (fun i wr => ∃ (j : Nat), j ≤ 64 ∧ i = .int .i64 (j : Int) ∧ Hid (∃ v : Value, GrowAt zD w pg po (.slice pp n cc) n id j v wr)) (fun i _ => 64 - (intOf i).toNat)
  case atStart => exact ⟨0, by omega, rfl, _, unhide G0⟩
  case round =>
    obtain ⟨j, hj, rfl, HS⟩ := hrel
    obtain ⟨v, hs⟩ := unhide HS
    clear G0
    by_cases hlt : j < 64
    · have l1 := hs.g (unhide HU)
      have l2 : wr.cell? ⟨pg, po + 3, none⟩ = some (.int .i64 (id : Int)) := (hs.cell (by omega)).trans (unhide HID)
      have l3 : wr.frozen? ⟨pg, po + 1, none⟩ = false := (hs.frozen (po + 1)).trans (unhide HGF)
      have hI1 : (j : Int) < 64 := by omega
      have hpr : pg < wr.heap.size := Nat.lt_of_lt_of_le hpg hs.size
      have hbe := hide (behind_any id hid)
      have hmk := hide (markD (id + 100000) j (by omega) (by omega) wr.drew ((unhide HPW).keep (hs.far 1 (unhide HPW).lt (fun e => hp1 e.symm) (unhide H1))))
      have hcast : ((id + 100000 : Nat) : Int) = (id : Int) + 100000 := by omega
      rw [hcast] at hmk
      have HSTEP : Hid (∀ w2 ty, Below wr.heap.size wr w2 → ∃ g c5 w5, (Builtin.append_ #[22, 22] ty #[v, .slice (some ⟨w2.heap.size, 0, none⟩) 1 1]).run Tryz.prog (w2.alloc (.cells #[.string (mkS (id + 100000) j), .int .i64 (-(j : Int) - 1), .int .i64 0, .bool false] 65)) = .ok (.slice (some ⟨g, 0, none⟩) (n + j + 1) c5) w5 ∧ w5.cell? ⟨pg, po + 1, none⟩ = some v ∧ w5.cell? ⟨pg, po + 3, none⟩ = some (.int .i64 (id : Int)) ∧ w5.frozen? ⟨pg, po + 1, none⟩ = false ∧
          GrowAt zD w pg po (.slice pp n cc) n id (j + 1) (.slice (some ⟨g, 0, none⟩) (n + j + 1) c5) (w5.setCell ⟨pg, po + 1, none⟩ (.slice (some ⟨g, 0, none⟩) (n + j + 1) c5))) := fun w2 ty hb => by
        have hba := bal hb (.cells #[.string (mkS (id + 100000) j), .int .i64 (-(j : Int) - 1), .int .i64 0, .bool false] 65)
        obtain ⟨g, c5, w5, r5, o5, g5⟩ := run_appK (K := kD) kD_ok ty (W := w2.alloc (.cells #[.string (mkS (id + 100000) j), .int .i64 (-(j : Int) - 1), .int .i64 0, .bool false] 65)) (M := [mkD (id + 100000) j]) (row_far hs.own fun q hq => hba.block q (row_lt hs.own hq).2) (Nat.zero_le _) ⟨w2.heap.size, 0, none⟩ 1 (by simp) (one_lies w2 (mkD (id + 100000) j) 65 _ rfl) (by simp; omega)
        have hvn := hs.ne (unhide HNE) hpg
        have hpW : pg < (w2.alloc (.cells #[.string (mkS (id + 100000) j), .int .i64 (-(j : Int) - 1), .int .i64 0, .bool false] 65)).heap.size := Nat.lt_of_lt_of_le hpr hba.size
        have hblk : w5.heap[pg]? = wr.heap[pg]? := by
          refine Eq.trans ?_ (hba.block pg hpr)
          rcases g5 with ⟨k1, k2⟩ | ⟨k1, k2⟩
          · exact k2.block pg hpW (fun e => hvn g k1 (by injection e with e; exact e.symm))
          · exact k2.block pg hpW (by simp)
        exact ⟨g, c5, w5, r5, (World.cell?_of_block hblk).trans l1, (World.cell?_of_block hblk).trans l2, (World.frozen?_of_block hblk).trans l3, hs.step kD_ok (unhide HNE) hpg (unhide HLA) hba o5 g5⟩
      clear hs hcast HS
      unfold cvD at hmk
      simp only [mkD] at hmk
      go_wp2_with fail
      refine wp_region_last (n := 16) (S := fun W => W.cell? ⟨pg, po + 1, none⟩ = some v ∧ W.cell? ⟨pg, po + 3, none⟩ = some (.int .i64 (id : Int))) (by kernel_rfl) (by first | (exact ⟨l1, l2⟩)) (fun hHeld => ?_)
      refine tkW 0 ?_
      refine tkW 1 ?_
      refine tkW 2 ?_
      refine tkW 3 ?_
      refine tkS 4 ?_
      refine tkW 5 ?_
      refine tkW 6 ?_
      refine tkW 7 ?_
      refine tkS 8 ?_
      refine tkW 10 ?_
      refine wpAnyL_one (i := 9) (by kernel_rfl) rfl (fun KK hK => ?_)
      go_simp
      go_wp2_with (first | (go_at_call 171; refine (unhide hbe _).mono ?_; rintro e w2 ⟨rfl, hw⟩; rw [hw]; clear hw w2))
      refine hK.out _ _ (by first | (exact ⟨l1, l2⟩)) (fun hHeld => ?_)
      clear hK KK
      refine wpAnyL_one (i := 11) (by kernel_rfl) rfl (fun KK hK => ?_)
      go_simp
      go_wp2_with (first | (go_at_call 75; refine (unhide hmk).mono ?_; rintro e w2 ⟨rfl, hb⟩; have B2 : Hid (Below wr.heap.size wr w2) := ⟨hb.os, hb.tape, hb.output, hb.size, hb.block⟩; have m1 := keep1 (unhide B2) hpr l1; have m2 := keep1 (unhide B2) hpr l2; have hz2 : wr.heap.size ≤ w2.heap.size := (unhide B2).size; clear hb))
      refine hK.out _ _ (by first | (exact ⟨m1, m2⟩)) (fun hHeld => ?_)
      clear hK KK
      refine wpAnyL_one (i := 12) (by kernel_rfl) rfl (fun KK hK => ?_)
      go_simp
      refine hK.out _ _ (by first | (exact ⟨keep1 (bal (Below.refl w2.heap.size w2) _) (by omega) m1, keep1 (bal (Below.refl w2.heap.size w2) _) (by omega) m2⟩)) (fun hHeld => ?_)
      clear hK KK
      refine wpAnyL_one (i := 13) (by kernel_rfl) rfl (fun KK hK => ?_)
      obtain ⟨g, c5, w5, r5, t1, t2, t3, hgo⟩ := unhide HSTEP w2 22 (unhide B2)
      refine step_append_run _ (by rfl) _ _ 22 (by rfl) v _ _ _ (by rfl) (by rfl) r5 ?_
      have HGO := hide hgo
      clear r5 hgo
      refine hK.out _ _ (by first | (exact ⟨t1, t2⟩)) (fun hHeld => ?_)
      clear hK KK
      refine tkW 14 ?_
      refine tkW 15 ?_
      refine wpAnyL_end (i := 16) (by kernel_rfl) rfl (by kernel_rfl) (by kernel_rfl) (fun KK hK => ?_)
      go_simp
      refine hK.out _ _ ?_
      clear hK KK
      go_wp2_with fail
      exact ⟨⟨j + 1, by omega, by go_num, _, unhide HGO⟩, by simp [intOf]; omega⟩
    · have hj64 : j = 64 := by omega
      subst hj64
      have hI1 : ¬ ((64 : Nat) : Int) < 64 := by omega
      have HV : Hid (∃ v : Value, GrowAt zD w pg po (.slice pp n cc) n id 64 v wr) := ⟨v, hs⟩
      clear hs
      go_wp2_with fail
      go_end0
      exact ⟨rfl, unhide HV⟩
end Go.Proofs.YtdeibifjiefapaaGreatDoor.Kg
