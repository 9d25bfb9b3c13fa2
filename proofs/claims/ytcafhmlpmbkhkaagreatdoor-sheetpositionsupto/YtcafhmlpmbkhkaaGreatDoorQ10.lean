import Derived.Test.YtcafhmlpmbkhkaaGreatDoorQ06
import Derived.Test.YtcafhmlpmbkhkaaGreatDoorQ01
import Derived.Laws.StructEq
import Derived.Test.YtcafhmlpmbkhkaaGreatDoorQ07
import Derived.Test.YtcafhmlpmbkhkaaGreatDoorW28
namespace Go.Proofs.YtcafhmlpmbkhkaaGreatDoor.Kg
open Go Go.Shelf Go.ChangeShapes Go.WideShapes Go.ChangeAt Go.RowKit Go.Maps
set_option linter.unusedVariables false
set_option linter.unusedSimpArgs false
def mkU (id k : Nat) : Po := ⟨-1000 * (id : Int) - 1, -(k : Int) - 1, 0, 0, mkS id k, ⟨#[]⟩, 0, ⟨#[]⟩, ⟨#[]⟩⟩
def mklU (id n : Nat) : List Po := (List.range n).map (mkU id)
theorem mklU_len (id n : Nat) : (mklU id n).length = n := by simp [mklU]
theorem mklU_get (id n k : Nat) (h : k < (mklU id n).length) : (mklU id n)[k] = mkU id k := by simp [mklU]
theorem mklU_succ (id n : Nat) : mklU id (n + 1) = mklU id n ++ [mkU id n] := by simp [mklU, List.range_succ]
theorem retU {tmps : Array Value} {w : World} {b : Nat} {x : Po} (hp : tmps[4]?.getD undef = .pointer (some ⟨b, 0, none⟩)) (h : w.heap[b]? = some (.cells #[.int .i64 x.seq, .int .i64 x.lin, .int .i64 x.day, .int .i64 x.kin, .string x.key, .string x.acc, .int .i64 x.amt, .string x.tag, .string x.mem] 63 (0, 0))) :
    (results Tryz.f102 tmps).run Tryz.prog w = .ok (cvU x) w := by
  have q0 : w.cell? ⟨b, 0, none⟩ = some (.int .i64 x.seq) := by rw [cell_at h]; rfl
  have q1 : w.cell? ⟨b, 1, none⟩ = some (.int .i64 x.lin) := by rw [cell_at h]; rfl
  have q2 : w.cell? ⟨b, 2, none⟩ = some (.int .i64 x.day) := by rw [cell_at h]; rfl
  have q3 : w.cell? ⟨b, 3, none⟩ = some (.int .i64 x.kin) := by rw [cell_at h]; rfl
  have q4 : w.cell? ⟨b, 4, none⟩ = some (.string x.key) := by rw [cell_at h]; rfl
  have q5 : w.cell? ⟨b, 5, none⟩ = some (.string x.acc) := by rw [cell_at h]; rfl
  have q6 : w.cell? ⟨b, 6, none⟩ = some (.int .i64 x.amt) := by rw [cell_at h]; rfl
  have q7 : w.cell? ⟨b, 7, none⟩ = some (.string x.tag) := by rw [cell_at h]; rfl
  have q8 : w.cell? ⟨b, 8, none⟩ = some (.string x.mem) := by rw [cell_at h]; rfl
  simp [results, hp, asAddr, go_sem, q0, q1, q2, q3, q4, q5, q6, q7, q8, cvU]
set_option maxRecDepth 100000 in
set_option maxHeartbeats 2000000 in
theorem markU (id k : Nat) (hid : id < 1000000) (hk : k < 1000000) (w : World) (h : Pw w) : Calls Tryz.prog 102 #[.int .i64 (id : Int), .int .i64 (k : Int)] w fun e w' => e = .returned (cvU (mkU id k)) ∧ Below w.heap.size w w' := by
  obtain ⟨w1, hw1⟩ : ∃ w1, w1 = w.alloc (.cells #[.int .i64 0, .int .i64 0, .int .i64 0, .int .i64 0, .string ⟨#[]⟩, .string ⟨#[]⟩, .int .i64 0, .string ⟨#[]⟩, .string ⟨#[]⟩] 63) := ⟨_, rfl⟩
  have b1 : Below w.heap.size w w1 := by rw [hw1]; exact bal (Below.refl _ _) _
  have z1 : w1.heap.size = w.heap.size + 1 := by rw [hw1]; simp
  have d := hide (text_any id k hid hk w1 (h.below b1))
  have hR1 : w1.heap[w.heap.size]? = some (.cells #[.int .i64 0, .int .i64 0, .int .i64 0, .int .i64 0, .string ⟨#[]⟩, .string ⟨#[]⟩, .int .i64 0, .string ⟨#[]⟩, .string ⟨#[]⟩] 63 (0, 0)) := by rw [hw1]; exact heap_new _ _
  have HR := hide hR1
  have H1 := hide hw1
  have B1 := hide b1
  have s0 : -9223372036854775808 ≤ -(k : Int) := by omega
  have s1 : -(k : Int) ≤ 9223372036854775807 := by omega
  have s2 : -9223372036854775808 ≤ -(k : Int) - 1 := by omega
  have s3 : -(k : Int) - 1 ≤ 9223372036854775807 := by omega
  clear h hw1 b1 hR1
  go_enter Tryz.func102, Tryz.ntmps102
  go_wp2_with fail
  rw [← unhide H1]
  refine (unhide d).mono ?_
  rintro e w2 ⟨rfl, hg⟩
  have hb2 := hg.below
  have hR2 := (hb2.block w.heap.size (by omega)).trans (unhide HR)
  have q0 : w2.cell? ⟨w.heap.size, 0, none⟩ = some (.int .i64 0) := by rw [cell_at hR2]; rfl
  have f0 : w2.frozen? ⟨w.heap.size, 0, none⟩ = false := froz_at hR2
  have q1 : w2.cell? ⟨w.heap.size, 1, none⟩ = some (.int .i64 0) := by rw [cell_at hR2]; rfl
  have f1 : w2.frozen? ⟨w.heap.size, 1, none⟩ = false := froz_at hR2
  have q2 : w2.cell? ⟨w.heap.size, 2, none⟩ = some (.int .i64 0) := by rw [cell_at hR2]; rfl
  have f2 : w2.frozen? ⟨w.heap.size, 2, none⟩ = false := froz_at hR2
  have q3 : w2.cell? ⟨w.heap.size, 3, none⟩ = some (.int .i64 0) := by rw [cell_at hR2]; rfl
  have f3 : w2.frozen? ⟨w.heap.size, 3, none⟩ = false := froz_at hR2
  have q4 : w2.cell? ⟨w.heap.size, 4, none⟩ = some (.string ⟨#[]⟩) := by rw [cell_at hR2]; rfl
  have f4 : w2.frozen? ⟨w.heap.size, 4, none⟩ = false := froz_at hR2
  have q5 : w2.cell? ⟨w.heap.size, 5, none⟩ = some (.string ⟨#[]⟩) := by rw [cell_at hR2]; rfl
  have f5 : w2.frozen? ⟨w.heap.size, 5, none⟩ = false := froz_at hR2
  have q6 : w2.cell? ⟨w.heap.size, 6, none⟩ = some (.int .i64 0) := by rw [cell_at hR2]; rfl
  have f6 : w2.frozen? ⟨w.heap.size, 6, none⟩ = false := froz_at hR2
  have q7 : w2.cell? ⟨w.heap.size, 7, none⟩ = some (.string ⟨#[]⟩) := by rw [cell_at hR2]; rfl
  have f7 : w2.frozen? ⟨w.heap.size, 7, none⟩ = false := froz_at hR2
  have q8 : w2.cell? ⟨w.heap.size, 8, none⟩ = some (.string ⟨#[]⟩) := by rw [cell_at hR2]; rfl
  have f8 : w2.frozen? ⟨w.heap.size, 8, none⟩ = false := froz_at hR2
  have HR2 := hide hR2
  have B2 : Hid (Below w.heap.size w w2) := (unhide B1).trans (hb2.mono (unhide B1).size)
  clear hg hb2 hR2
  go_wp2_with fail
  refine bodyPost_ret (retU (b := w.heap.size) (x := mkU id k) (by rfl) ?_) rfl ⟨rfl, ?_⟩
  · rw [Go.heap_setCell_same _ _ _ _ _ _ (Go.heap_setCell_same _ _ _ _ _ _ (Go.heap_setCell_same _ _ _ _ _ _ (Go.heap_setCell_same _ _ _ _ _ _ (Go.heap_setCell_same _ _ _ _ _ _ (Go.heap_setCell_same _ _ _ _ _ _ (Go.heap_setCell_same _ _ _ _ _ _ (Go.heap_setCell_same _ _ _ _ _ _ (Go.heap_setCell_same _ _ _ _ _ _ (unhide HR2)))))))))]
    rfl
  · exact ((((((((((unhide B2).setCell (p := ⟨w.heap.size, 0, none⟩) (Nat.le_refl _) _).setCell (p := ⟨w.heap.size, 1, none⟩) (Nat.le_refl _) _).setCell (p := ⟨w.heap.size, 2, none⟩) (Nat.le_refl _) _).setCell (p := ⟨w.heap.size, 3, none⟩) (Nat.le_refl _) _).setCell (p := ⟨w.heap.size, 4, none⟩) (Nat.le_refl _) _).setCell (p := ⟨w.heap.size, 5, none⟩) (Nat.le_refl _) _).setCell (p := ⟨w.heap.size, 6, none⟩) (Nat.le_refl _) _).setCell (p := ⟨w.heap.size, 7, none⟩) (Nat.le_refl _) _).setCell (p := ⟨w.heap.size, 8, none⟩) (Nat.le_refl _) _)
set_option maxRecDepth 100000 in
set_option maxHeartbeats 2000000 in
theorem eqkU (x : Po) (w : World) : Calls Tryz.prog 114 #[cvU x, cvU x] w fun e w' => e = .returned (.bool true) ∧ Below w.heap.size w w' := by
  have sd : Tryz.prog.underlying 63 = some (.struct (Tryz.prog.fieldsOf 63)) := by kernel_rfl
  have sh : Tryz.prog.stoodInHeld 63 = false := by kernel_rfl
  have eg : Tryz.prog.eqGuardType Tryz.prog.depth 63 = false := by kernel_rfl
  have heq : ∀ w, (Op.equalIn 10000 63 (.agg #[.int .i64 x.seq, .int .i64 x.lin, .int .i64 x.day, .int .i64 x.kin, .string x.key, .string x.acc, .int .i64 x.amt, .string x.tag, .string x.mem]) (.agg #[.int .i64 x.seq, .int .i64 x.lin, .int .i64 x.day, .int .i64 x.kin, .string x.key, .string x.acc, .int .i64 x.amt, .string x.tag, .string x.mem])).run Tryz.prog w = .ok true w := fun w => by
    rw [run_equalIn_agg w 9999 63 _ _ sd sh]
    have fl : (Tryz.prog.fieldsOf 63).toList.map (fun f => (f.type, f.offset, f.name == "_")) = [(3, 0, false), (3, 1, false), (3, 2, false), (3, 3, false), (9, 4, false), (9, 5, false), (2, 6, false), (9, 7, false), (9, 8, false)] := by kernel_rfl
    obtain ⟨f0, f1, f2, f3, f4, f5, f6, f7, f8, hf⟩ : ∃ f0 f1 f2 f3 f4 f5 f6 f7 f8, (Tryz.prog.fieldsOf 63).toList = [f0, f1, f2, f3, f4, f5, f6, f7, f8] := by
      have h := congrArg List.length fl
      rw [List.length_map] at h
      match hq : (Tryz.prog.fieldsOf 63).toList, h with
      | [f0, f1, f2, f3, f4, f5, f6, f7, f8], _ => exact ⟨f0, f1, f2, f3, f4, f5, f6, f7, f8, rfl⟩
    have h := fl
    rw [hf] at h ⊢
    simp at h
    simp [Op.eqFields, go_sem, h, Tryz.underlying9, Tryz.underlying2, Tryz.underlying3, Tryz.underlying4]
  unfold cvU
  go_enter Tryz.func114, Tryz.ntmps114
  go_wp2_with fail
  go_ret
  exact ⟨rfl, bal (bal (Below.refl _ _) _) _⟩
def RoomOutU (X : List Po) (n : Nat) (w : World) (e : Ending) (w' : World) : Prop :=
  ∃ g c, e = .returned (.slice (some ⟨g, 0, none⟩) (n + 64) c) ∧ w'.ownsRow w.heap.size 63 9 (.slice (some ⟨g, 0, none⟩) (n + 64) c) (n + 64) (kU.flat (X ++ mklU 700000 64)) ∧ Below w.heap.size w w'
structure RoomAtU (X : List Po) (n : Nat) (w : World) (j : Nat) (v : Value) (wr : World) : Prop where
  own : wr.ownsRow w.heap.size 63 9 v (n + j) (kU.flat (X ++ mklU 700000 j))
  bel : Below w.heap.size w wr
theorem own_lit0U (w : World) : (w.alloc (.cells #[] 63)).ownsRow w.heap.size 63 9 (.slice (some ⟨w.heap.size, 0, none⟩) 0 0) 0 (kU.flat []) := by
  refine ⟨by simp [Kd.flat], .inr ⟨w.heap.size, 0, #[], rfl, Nat.le_refl _, ?_, Nat.le_refl _, Nat.zero_le _, by simp, by simp [Kd.flat]⟩⟩
  exact heap_new w _
set_option maxRecDepth 100000 in
set_option maxHeartbeats 4000000 in
theorem roomU (X : List Po) (pp : Option Addr) (n cc : Nat) (hX : X.length = n) (hcc : pp = none → cc = 0) (hn : n ≤ 1048576) (w : World) (hP : Pw w) (hL : Lies kU w pp X) :
    Calls Tryz.prog 25 #[.slice pp n cc] w fun e w' => RoomOutU X n w e w' := by
  have b0 : Below w.heap.size w (w.alloc (.cells #[] 63)) := bal (Below.refl _ w) _
  obtain ⟨p5, c5, w5, r5, o5, b5, _⟩ := run_app (K := kU) kU_ok (L := []) (M := X) 56 (own_lit0U w) b0.size pp cc hcc (hL.below b0) (by rw [hX]; omega)
  rw [hX, Nat.zero_add] at r5 o5
  rw [List.nil_append] at o5
  have HS : Hid (RoomAtU X n w 0 (.slice p5 n c5) w5) := ⟨by rw [show mklU 700000 0 = [] from rfl, List.append_nil]; exact o5, b0.trans (b5.mono (Nat.le_refl _))⟩
  have HR5 := hide r5; have HPW := hide hP
  clear r5 o5 b5 b0 hP hL hcc hX
  go_enter Tryz.func25, Tryz.ntmps25
  go_wp2_with (at_builtin; refine wpList_append_run rfl _ _ 56 rfl _ _ _ _ rfl rfl (unhide HR5) ?_)
  go_loopw [3, 4] (fun v i wr => ∃ j : Nat, j ≤ 64 ∧ i = .int .i64 (j : Int) ∧ (∃ p' c', v = .slice p' (n + j) c') ∧ Hid (RoomAtU X n w j v wr)) (fun _ i _ => 64 - (intOf i).toNat)
  case atStart => exact ⟨0, by omega, rfl, ⟨_, _, rfl⟩, unhide HS⟩
  case round =>
    obtain ⟨j, hj, rfl, ⟨p7, c7, rfl⟩, HA⟩ := hrel
    have hA := unhide HA
    by_cases hlt : j < 64
    · have hI : (j : Int) < 64 := by omega
      have hmk := hide (markU 700000 j (by omega) (by omega) wr ((unhide HPW).below hA.bel))
      obtain ⟨O, hO⟩ : ∃ O, O = Obj.cells #[.int .i64 (-1000 * (700000 : Int) - 1), .int .i64 (-(j : Int) - 1), .int .i64 0, .int .i64 0, .string (mkS 700000 j), .string ⟨#[]⟩, .int .i64 0, .string ⟨#[]⟩, .string ⟨#[]⟩] 63 := ⟨_, rfl⟩
      have HSTEP : Hid (∀ w2, Below wr.heap.size wr w2 → ∃ p' c' w', (Builtin.append_ #[56, 56] 56 #[.slice p7 (n + j) c7, .slice (some ⟨w2.heap.size, 0, none⟩) 1 1]).run Tryz.prog (w2.alloc O) = .ok (.slice p' (n + j + 1) c') w' ∧ RoomAtU X n w (j + 1) (.slice p' (n + j + 1) c') w') := fun w2 hb => by
        have hba := bal hb O
        obtain ⟨p', c', w', r, o, b, _⟩ := run_app (K := kU) kU_ok (M := [mkU 700000 j]) 56 (W := w2.alloc O) (row_keep hA.own fun q hq => hba.block q (hA.own.lt q hq).2) (Nat.le_trans hA.bel.size hba.size) (some ⟨w2.heap.size, 0, none⟩) 1 (fun h => by cases h) (by rw [hO]; exact one_lies w2 (mkU 700000 j) 63 _ rfl) (by rw [List.length_singleton]; omega)
        simp only [List.length_singleton] at r o
        refine ⟨p', c', w', r, ⟨?_, (hA.bel.trans (hba.mono hA.bel.size)).trans b⟩⟩
        rw [mklU_succ, ← List.append_assoc]
        exact o
      clear hA
      unfold cvU at hmk
      simp only [mkU] at hmk
      subst hO
      go_wp2_with fail
      refine (unhide hmk).mono ?_
      rintro e w2 ⟨rfl, hb⟩
      obtain ⟨p', c', w', r, hrel⟩ := unhide HSTEP w2 hb
      have HREL := hide hrel
      clear hb hrel HSTEP
      go_wp2_with (at_builtin; refine wpList_append_run rfl _ _ 56 rfl _ _ _ _ rfl rfl r ?_)
      exact ⟨⟨j + 1, by omega, by go_num, ⟨_, _, rfl⟩, unhide HREL⟩, by simp [intOf]; omega⟩
    · have hj64 : j = 64 := by omega
      subst hj64
      have HF : Hid (∀ e, e = Ending.returned (.slice p7 (n + 64) c7) → RoomOutU X n w e wr) := fun e he => by
        obtain ⟨g, c, hv⟩ := own_open hA.own (by omega)
        injection hv with h1 _ h2
        subst h1 h2
        exact ⟨g, c7, he, hA.own, hA.bel⟩
      clear hA
      go_wp2_with fail
      go_ret
      exact unhide HF _ rfl
attribute [local go_sem ↓] ldU_is
theorem ldBU {w : World} {p : Option Addr} {L : List Po} (h : Lies kU w p L) {k : Nat} (hk : k < L.length) : ∃ b o, p = some ⟨b, o, none⟩ ∧ ∀ W, Below w.heap.size w W → (ldU (.pointer (some ⟨b, o + k * 9, none⟩))).run Tryz.prog W = .ok (cvU L[k]) W := by
  obtain ⟨b, o, e, hb, hr⟩ := h.2 k hk
  exact ⟨b, o, e, fun W hW => run_ldU (fun j u hu => keep1 hW hb (hr j u hu))⟩
set_option maxRecDepth 100000 in
set_option maxHeartbeats 8000000 in
theorem keptU (X : List Po) (pp pg : Option Addr) (n cc c : Nat) (hX : X.length = n) (hn : n ≤ 4611686018427387904) (w : World) (hP : Pw w) (hL : Lies kU w pp X) (hG : Lies kU w pg (X ++ mklU 700000 64)) :
    Calls Tryz.prog 29 #[.slice pg (n + 64) c, .slice pp n cc] w fun e w' => e = .returned (.bool true) ∧ Below w.heap.size w w' := by
  have HP := hide hP; have HL := hide hL; have HG := hide hG; have HX := hide hX
  clear hP hL hG hX
  go_enter Tryz.func29, Tryz.ntmps29
  go_wp2_with fail
  go_loopw [5] (fun i wr => ∃ (k : Nat) (K : Int), k ≤ n + 64 ∧ i = .int .i64 K ∧ K = (k : Int) ∧ Hid (Below w.heap.size w wr)) (fun i _ => ((n : Int) + 64 - intOf i).toNat)
  case atStart => exact ⟨0, 0, by omega, rfl, rfl, Below.refl _ _⟩
  case round =>
    obtain ⟨k, K, hk, rfl, hK, HB⟩ := hrel
    have hb := unhide HB
    have HK := hide hK
    have hK0 : 0 ≤ K := by omega
    have hKt : K.toNat = k := by omega
    by_cases hlt : k < n + 64
    · have hI : K < (n : Int) + 64 := by omega
      obtain ⟨b1, o1, e1, r1⟩ := ldBU ((unhide HG).below hb) (k := k) (by rw [List.length_append, unhide HX, mklU_len]; exact hlt)
      subst e1
      by_cases hkn : k < n
      · obtain ⟨b2, o2, e2, r2⟩ := ldBU ((unhide HL).below hb) (k := k) (by rw [unhide HX]; exact hkn)
        subst e2
        rw [List.getElem_append_left (by rw [unhide HX]; exact hkn)] at r1
        obtain ⟨vx, hvx⟩ : ∃ vx, vx = cvU (X[k]'(by rw [unhide HX]; exact hkn)) := ⟨_, rfl⟩
        rw [← hvx] at r1 r2
        have x0 : ∀ P : Bel wr, (ldU (.pointer (some ⟨b1, o1 + k * 9, none⟩))).run Tryz.prog P.W = .ok vx P.W := fun P => r1 P.W P.h
        have y0 : ∀ P : Bel wr, (ldU (.pointer (some ⟨b2, o2 + k * 9, none⟩))).run Tryz.prog P.W = .ok vx P.W := fun P => r2 P.W P.h
        have HSM : Hid (∀ P : Bel wr, Calls Tryz.prog 114 #[vx, vx] P.W fun e w'' => e = .returned (.bool true) ∧ ∃ q : Bel wr, w'' = q.W) := fun P => by
          rw [hvx]
          exact (eqkU _ P.W).mono (fun e w' ⟨h1, h2⟩ => ⟨h1, ⟨w', P.h.trans (h2.mono P.h.size)⟩, rfl⟩)
        subst hK
        have hI1 : (k : Int) < (n : Int) := by omega
        have hI2 : ¬ (n : Int) ≤ (k : Int) := by omega
        have hN2 : ¬ n ≤ k := by omega
        have hD2 : decide (n ≤ k) = false := decide_eq_false hN2
        clear r1 r2 hvx hb hk HK hKt
        go_wp2_with fail
        refine wp_region_quiet_below (by kernel_rfl) (by kernel_rfl) ?_
        repeat (go_big_quiet_step (first | (go_at_call 114; refine unhide HSM _)))
        refine wpQuiet_nil ?_
        rintro _ ⟨P, rfl⟩
        clear x0 y0
        go_wp2_with fail
        exact ⟨⟨k + 1, (k : Int) + 1, by omega, by go_num, by omega, (unhide HB).trans (P.h.mono (unhide HB).size)⟩, by simp [intOf]; omega⟩
      · obtain ⟨j, hjk⟩ : ∃ j, k = n + j := ⟨k - n, by omega⟩
        have ej : ∀ h, (X ++ mklU 700000 64)[k]'h = mkU 700000 j := fun h => by
          have e9 : (X ++ mklU 700000 64)[k]? = some (mkU 700000 j) := by
            rw [List.getElem?_append_right (by rw [unhide HX]; omega), unhide HX, show k - n = j by omega, List.getElem?_eq_getElem (by rw [mklU_len]; omega), mklU_get]
          rw [List.getElem?_eq_getElem h] at e9
          exact Option.some.inj e9
        rw [ej] at r1
        obtain ⟨vx, hvx⟩ : ∃ vx, vx = cvU (mkU 700000 j) := ⟨_, rfl⟩
        rw [← hvx] at r1
        have x0 : ∀ P : Bel wr, (ldU (.pointer (some ⟨b1, o1 + k * 9, none⟩))).run Tryz.prog P.W = .ok vx P.W := fun P => r1 P.W P.h
        have hI1 : ¬ K < (n : Int) := by omega
        have hI2 : (n : Int) ≤ K := by omega
        have hI3 : K - (n : Int) = (j : Int) := by omega
        have hwj : IntKind.i64.wrap (j : Int) = (j : Int) := by rw [IntKind.wrap_i64]; omega
        have hwK : IntKind.i64.wrap (K - (n : Int)) = (j : Int) := by rw [hI3, hwj]
        have hD1 : decide (K < (n : Int)) = false := decide_eq_false hI1
        have hD2 : decide ((n : Int) ≤ K) = true := decide_eq_true hI2
        have HMK : Hid (∀ P : Bel wr, Calls Tryz.prog 102 #[.int .i64 700000, .int .i64 (j : Int)] P.W fun e w'' => e = .returned vx ∧ ∃ q : Bel wr, w'' = q.W) := fun P => by
          rw [hvx]
          exact (markU 700000 j (by omega) (by omega) P.W (((unhide HP).below hb).below P.h)).mono (fun e w' ⟨h1, h2⟩ => ⟨h1, ⟨w', P.h.trans (h2.mono P.h.size)⟩, rfl⟩)
        have HSM : Hid (∀ P : Bel wr, Calls Tryz.prog 114 #[vx, vx] P.W fun e w'' => e = .returned (.bool true) ∧ ∃ q : Bel wr, w'' = q.W) := fun P => by
          rw [hvx]
          exact (eqkU _ P.W).mono (fun e w' ⟨h1, h2⟩ => ⟨h1, ⟨w', P.h.trans (h2.mono P.h.size)⟩, rfl⟩)
        clear r1 hvx hb hK hlt hk hkn hjk ej
        go_wp2_with fail
        refine wp_region_quiet_below (by kernel_rfl) (by kernel_rfl) ?_
        repeat (go_big_quiet_step (first | (go_at_call 114; refine unhide HSM _) | (go_at_call 102; refine unhide HMK _)))
        refine wpQuiet_nil ?_
        rintro _ ⟨P, rfl⟩
        clear x0
        go_wp2_with fail
        exact ⟨⟨k + 1, K + 1, by have := unhide HK; omega, by go_num, by have := unhide HK; omega, (unhide HB).trans (P.h.mono (unhide HB).size)⟩, by have := unhide HK; simp [intOf]; omega⟩
    · have hI : ¬ K < (n : Int) + 64 := by omega
      clear hb hK
      go_wp2_with fail
      go_ret
      exact ⟨rfl, unhide HB⟩
end Go.Proofs.YtcafhmlpmbkhkaaGreatDoor.Kg
namespace Go.Proofs.YtcafhmlpmbkhkaaGreatDoor.Kg
open Go Go.Shelf Go.ChangeShapes Go.WideShapes Go.ChangeAt Go.RowKit Go.Maps
set_option linter.unusedVariables false
set_option linter.unusedSimpArgs false
open Go.Proofs.YtcafhmlpmbkhkaaGreatDoor.Ch (kA kA_ok)
theorem run_ldA {w : World} {b o : Nat} {x : Ch.Ac} (h : w.rangeAt b o (kA.enc x)) : (ldA (.pointer (some ⟨b, o, none⟩))).run Tryz.prog w = .ok (cvA x) w := run_loadAt_mid (P := Tryz.prog) w b o 139 (kA.enc x) _ h Tryz.underlying139 rfl sizA
def mkA (id k : Nat) : Ch.Ac := ⟨(mkS id k).data.toList, -(k : Int) - 1, 0, false⟩
def mklA (id n : Nat) : List Ch.Ac := (List.range n).map (mkA id)
theorem mklA_len (id n : Nat) : (mklA id n).length = n := by simp [mklA]
theorem mklA_get (id n k : Nat) (h : k < (mklA id n).length) : (mklA id n)[k] = mkA id k := by simp [mklA]
theorem mklA_succ (id n : Nat) : mklA id (n + 1) = mklA id n ++ [mkA id n] := by simp [mklA, List.range_succ]
theorem retA {tmps : Array Value} {w : World} {b : Nat} {x : Ch.Ac} (hp : tmps[4]?.getD undef = .pointer (some ⟨b, 0, none⟩)) (h : w.heap[b]? = some (.cells #[.string (Ch.txN x.nm), .int .i64 x.ty, .int .i64 x.dy, .bool x.cl] 139 (0, 0))) :
    (results Tryz.f101 tmps).run Tryz.prog w = .ok (cvA x) w := by
  have q0 : w.cell? ⟨b, 0, none⟩ = some (.string (Ch.txN x.nm)) := by rw [cell_at h]; rfl
  have q1 : w.cell? ⟨b, 1, none⟩ = some (.int .i64 x.ty) := by rw [cell_at h]; rfl
  have q2 : w.cell? ⟨b, 2, none⟩ = some (.int .i64 x.dy) := by rw [cell_at h]; rfl
  have q3 : w.cell? ⟨b, 3, none⟩ = some (.bool x.cl) := by rw [cell_at h]; rfl
  simp [results, hp, asAddr, go_sem, q0, q1, q2, q3, cvA]
set_option maxRecDepth 100000 in
set_option maxHeartbeats 2000000 in
theorem markA (id k : Nat) (hid : id < 1000000) (hk : k < 1000000) (w : World) (h : Pw w) : Calls Tryz.prog 101 #[.int .i64 (id : Int), .int .i64 (k : Int)] w fun e w' => e = .returned (cvA (mkA id k)) ∧ Below w.heap.size w w' := by
  obtain ⟨w1, hw1⟩ : ∃ w1, w1 = w.alloc (.cells #[.string ⟨#[]⟩, .int .i64 0, .int .i64 0, .bool false] 139) := ⟨_, rfl⟩
  have b1 : Below w.heap.size w w1 := by rw [hw1]; exact bal (Below.refl _ _) _
  have z1 : w1.heap.size = w.heap.size + 1 := by rw [hw1]; simp
  have d := hide (text_any id k hid hk w1 (h.below b1))
  have hR1 : w1.heap[w.heap.size]? = some (.cells #[.string ⟨#[]⟩, .int .i64 0, .int .i64 0, .bool false] 139 (0, 0)) := by rw [hw1]; exact heap_new _ _
  have HR := hide hR1
  have H1 := hide hw1
  have B1 := hide b1
  have s0 : -9223372036854775808 ≤ -(k : Int) := by omega
  have s1 : -(k : Int) ≤ 9223372036854775807 := by omega
  have s2 : -9223372036854775808 ≤ -(k : Int) - 1 := by omega
  have s3 : -(k : Int) - 1 ≤ 9223372036854775807 := by omega
  clear h hw1 b1 hR1
  go_enter Tryz.func101, Tryz.ntmps101
  go_wp2_with fail
  rw [← unhide H1]
  refine (unhide d).mono ?_
  rintro e w2 ⟨rfl, hg⟩
  have hb2 := hg.below
  have hR2 := (hb2.block w.heap.size (by omega)).trans (unhide HR)
  have q0 : w2.cell? ⟨w.heap.size, 0, none⟩ = some (.string ⟨#[]⟩) := by rw [cell_at hR2]; rfl
  have f0 : w2.frozen? ⟨w.heap.size, 0, none⟩ = false := froz_at hR2
  have q1 : w2.cell? ⟨w.heap.size, 1, none⟩ = some (.int .i64 0) := by rw [cell_at hR2]; rfl
  have f1 : w2.frozen? ⟨w.heap.size, 1, none⟩ = false := froz_at hR2
  have q2 : w2.cell? ⟨w.heap.size, 2, none⟩ = some (.int .i64 0) := by rw [cell_at hR2]; rfl
  have f2 : w2.frozen? ⟨w.heap.size, 2, none⟩ = false := froz_at hR2
  have q3 : w2.cell? ⟨w.heap.size, 3, none⟩ = some (.bool false) := by rw [cell_at hR2]; rfl
  have f3 : w2.frozen? ⟨w.heap.size, 3, none⟩ = false := froz_at hR2
  have HR2 := hide hR2
  have B2 : Hid (Below w.heap.size w w2) := (unhide B1).trans (hb2.mono (unhide B1).size)
  clear hg hb2 hR2
  go_wp2_with fail
  refine bodyPost_ret (retA (b := w.heap.size) (x := mkA id k) (by rfl) ?_) rfl ⟨rfl, ?_⟩
  · rw [Go.heap_setCell_same _ _ _ _ _ _ (Go.heap_setCell_same _ _ _ _ _ _ (Go.heap_setCell_same _ _ _ _ _ _ (Go.heap_setCell_same _ _ _ _ _ _ (unhide HR2))))]
    rfl
  · exact (((((unhide B2).setCell (p := ⟨w.heap.size, 0, none⟩) (Nat.le_refl _) _).setCell (p := ⟨w.heap.size, 1, none⟩) (Nat.le_refl _) _).setCell (p := ⟨w.heap.size, 2, none⟩) (Nat.le_refl _) _).setCell (p := ⟨w.heap.size, 3, none⟩) (Nat.le_refl _) _)
set_option maxRecDepth 100000 in
set_option maxHeartbeats 2000000 in
theorem eqkA (x : Ch.Ac) (w : World) : Calls Tryz.prog 113 #[cvA x, cvA x] w fun e w' => e = .returned (.bool true) ∧ Below w.heap.size w w' := by
  have sd : Tryz.prog.underlying 139 = some (.struct (Tryz.prog.fieldsOf 139)) := by kernel_rfl
  have sh : Tryz.prog.stoodInHeld 139 = false := by kernel_rfl
  have eg : Tryz.prog.eqGuardType Tryz.prog.depth 139 = false := by kernel_rfl
  have heq : ∀ w, (Op.equalIn 10000 139 (.agg #[.string (Ch.txN x.nm), .int .i64 x.ty, .int .i64 x.dy, .bool x.cl]) (.agg #[.string (Ch.txN x.nm), .int .i64 x.ty, .int .i64 x.dy, .bool x.cl])).run Tryz.prog w = .ok true w := fun w => by
    rw [run_equalIn_agg w 9999 139 _ _ sd sh]
    have fl : (Tryz.prog.fieldsOf 139).toList.map (fun f => (f.type, f.offset, f.name == "_")) = [(9, 0, false), (3, 1, false), (3, 2, false), (4, 3, false)] := by kernel_rfl
    obtain ⟨f0, f1, f2, f3, hf⟩ : ∃ f0 f1 f2 f3, (Tryz.prog.fieldsOf 139).toList = [f0, f1, f2, f3] := by
      have h := congrArg List.length fl
      rw [List.length_map] at h
      match hq : (Tryz.prog.fieldsOf 139).toList, h with
      | [f0, f1, f2, f3], _ => exact ⟨f0, f1, f2, f3, rfl⟩
    have h := fl
    rw [hf] at h ⊢
    simp at h
    simp [Op.eqFields, go_sem, h, Tryz.underlying9, Tryz.underlying2, Tryz.underlying3, Tryz.underlying4]
  unfold cvA
  go_enter Tryz.func113, Tryz.ntmps113
  go_wp2_with fail
  go_ret
  exact ⟨rfl, bal (bal (Below.refl _ _) _) _⟩
def RoomOutA (X : List Ch.Ac) (n : Nat) (w : World) (e : Ending) (w' : World) : Prop :=
  ∃ g c, e = .returned (.slice (some ⟨g, 0, none⟩) (n + 64) c) ∧ w'.ownsRow w.heap.size 139 4 (.slice (some ⟨g, 0, none⟩) (n + 64) c) (n + 64) (kA.flat (X ++ mklA 700000 64)) ∧ Below w.heap.size w w'
structure RoomAtA (X : List Ch.Ac) (n : Nat) (w : World) (j : Nat) (v : Value) (wr : World) : Prop where
  own : wr.ownsRow w.heap.size 139 4 v (n + j) (kA.flat (X ++ mklA 700000 j))
  bel : Below w.heap.size w wr
theorem own_lit0A (w : World) : (w.alloc (.cells #[] 139)).ownsRow w.heap.size 139 4 (.slice (some ⟨w.heap.size, 0, none⟩) 0 0) 0 (kA.flat []) := by
  refine ⟨by simp [Kd.flat], .inr ⟨w.heap.size, 0, #[], rfl, Nat.le_refl _, ?_, Nat.le_refl _, Nat.zero_le _, by simp, by simp [Kd.flat]⟩⟩
  exact heap_new w _
set_option maxRecDepth 100000 in
set_option maxHeartbeats 4000000 in
theorem roomA (X : List Ch.Ac) (pp : Option Addr) (n cc : Nat) (hX : X.length = n) (hcc : pp = none → cc = 0) (hn : n ≤ 1048576) (w : World) (hP : Pw w) (hL : Lies kA w pp X) :
    Calls Tryz.prog 24 #[.slice pp n cc] w fun e w' => RoomOutA X n w e w' := by
  have b0 : Below w.heap.size w (w.alloc (.cells #[] 139)) := bal (Below.refl _ w) _
  obtain ⟨p5, c5, w5, r5, o5, b5, _⟩ := run_app (K := kA) kA_ok (L := []) (M := X) 55 (own_lit0A w) b0.size pp cc hcc (hL.below b0) (by rw [hX]; omega)
  rw [hX, Nat.zero_add] at r5 o5
  rw [List.nil_append] at o5
  have HS : Hid (RoomAtA X n w 0 (.slice p5 n c5) w5) := ⟨by rw [show mklA 700000 0 = [] from rfl, List.append_nil]; exact o5, b0.trans (b5.mono (Nat.le_refl _))⟩
  have HR5 := hide r5; have HPW := hide hP
  clear r5 o5 b5 b0 hP hL hcc hX
  go_enter Tryz.func24, Tryz.ntmps24
  go_wp2_with (at_builtin; refine wpList_append_run rfl _ _ 55 rfl _ _ _ _ rfl rfl (unhide HR5) ?_)
  go_loopw [3, 4] (fun v i wr => ∃ j : Nat, j ≤ 64 ∧ i = .int .i64 (j : Int) ∧ (∃ p' c', v = .slice p' (n + j) c') ∧ Hid (RoomAtA X n w j v wr)) (fun _ i _ => 64 - (intOf i).toNat)
  case atStart => exact ⟨0, by omega, rfl, ⟨_, _, rfl⟩, unhide HS⟩
  case round =>
    obtain ⟨j, hj, rfl, ⟨p7, c7, rfl⟩, HA⟩ := hrel
    have hA := unhide HA
    by_cases hlt : j < 64
    · have hI : (j : Int) < 64 := by omega
      have hmk := hide (markA 700000 j (by omega) (by omega) wr ((unhide HPW).below hA.bel))
      obtain ⟨O, hO⟩ : ∃ O, O = Obj.cells #[.string (Ch.txN (mkS 700000 j).data.toList), .int .i64 (-(j : Int) - 1), .int .i64 0, .bool false] 139 := ⟨_, rfl⟩
      have HSTEP : Hid (∀ w2, Below wr.heap.size wr w2 → ∃ p' c' w', (Builtin.append_ #[55, 55] 55 #[.slice p7 (n + j) c7, .slice (some ⟨w2.heap.size, 0, none⟩) 1 1]).run Tryz.prog (w2.alloc O) = .ok (.slice p' (n + j + 1) c') w' ∧ RoomAtA X n w (j + 1) (.slice p' (n + j + 1) c') w') := fun w2 hb => by
        have hba := bal hb O
        obtain ⟨p', c', w', r, o, b, _⟩ := run_app (K := kA) kA_ok (M := [mkA 700000 j]) 55 (W := w2.alloc O) (row_keep hA.own fun q hq => hba.block q (hA.own.lt q hq).2) (Nat.le_trans hA.bel.size hba.size) (some ⟨w2.heap.size, 0, none⟩) 1 (fun h => by cases h) (by rw [hO]; exact one_lies w2 (mkA 700000 j) 139 _ rfl) (by rw [List.length_singleton]; omega)
        simp only [List.length_singleton] at r o
        refine ⟨p', c', w', r, ⟨?_, (hA.bel.trans (hba.mono hA.bel.size)).trans b⟩⟩
        rw [mklA_succ, ← List.append_assoc]
        exact o
      clear hA
      unfold cvA at hmk
      simp only [mkA] at hmk
      subst hO
      go_wp2_with fail
      refine (unhide hmk).mono ?_
      rintro e w2 ⟨rfl, hb⟩
      obtain ⟨p', c', w', r, hrel⟩ := unhide HSTEP w2 hb
      have HREL := hide hrel
      clear hb hrel HSTEP
      go_wp2_with (at_builtin; refine wpList_append_run rfl _ _ 55 rfl _ _ _ _ rfl rfl r ?_)
      exact ⟨⟨j + 1, by omega, by go_num, ⟨_, _, rfl⟩, unhide HREL⟩, by simp [intOf]; omega⟩
    · have hj64 : j = 64 := by omega
      subst hj64
      have HF : Hid (∀ e, e = Ending.returned (.slice p7 (n + 64) c7) → RoomOutA X n w e wr) := fun e he => by
        obtain ⟨g, c, hv⟩ := own_open hA.own (by omega)
        injection hv with h1 _ h2
        subst h1 h2
        exact ⟨g, c7, he, hA.own, hA.bel⟩
      clear hA
      go_wp2_with fail
      go_ret
      exact unhide HF _ rfl
attribute [local go_sem ↓] ldA_is
theorem ldBA {w : World} {p : Option Addr} {L : List Ch.Ac} (h : Lies kA w p L) {k : Nat} (hk : k < L.length) : ∃ b o, p = some ⟨b, o, none⟩ ∧ ∀ W, Below w.heap.size w W → (ldA (.pointer (some ⟨b, o + k * 4, none⟩))).run Tryz.prog W = .ok (cvA L[k]) W := by
  obtain ⟨b, o, e, hb, hr⟩ := h.2 k hk
  exact ⟨b, o, e, fun W hW => run_ldA (fun j u hu => keep1 hW hb (hr j u hu))⟩
set_option maxRecDepth 100000 in
set_option maxHeartbeats 8000000 in
theorem keptA (X : List Ch.Ac) (pp pg : Option Addr) (n cc c : Nat) (hX : X.length = n) (hn : n ≤ 4611686018427387904) (w : World) (hP : Pw w) (hL : Lies kA w pp X) (hG : Lies kA w pg (X ++ mklA 700000 64)) :
    Calls Tryz.prog 28 #[.slice pg (n + 64) c, .slice pp n cc] w fun e w' => e = .returned (.bool true) ∧ Below w.heap.size w w' := by
  have HP := hide hP; have HL := hide hL; have HG := hide hG; have HX := hide hX
  clear hP hL hG hX
  go_enter Tryz.func28, Tryz.ntmps28
  go_wp2_with fail
  go_loopw [5] (fun i wr => ∃ (k : Nat) (K : Int), k ≤ n + 64 ∧ i = .int .i64 K ∧ K = (k : Int) ∧ Hid (Below w.heap.size w wr)) (fun i _ => ((n : Int) + 64 - intOf i).toNat)
  case atStart => exact ⟨0, 0, by omega, rfl, rfl, Below.refl _ _⟩
  case round =>
    obtain ⟨k, K, hk, rfl, hK, HB⟩ := hrel
    have hb := unhide HB
    have HK := hide hK
    have hK0 : 0 ≤ K := by omega
    have hKt : K.toNat = k := by omega
    by_cases hlt : k < n + 64
    · have hI : K < (n : Int) + 64 := by omega
      obtain ⟨b1, o1, e1, r1⟩ := ldBA ((unhide HG).below hb) (k := k) (by rw [List.length_append, unhide HX, mklA_len]; exact hlt)
      subst e1
      by_cases hkn : k < n
      · obtain ⟨b2, o2, e2, r2⟩ := ldBA ((unhide HL).below hb) (k := k) (by rw [unhide HX]; exact hkn)
        subst e2
        rw [List.getElem_append_left (by rw [unhide HX]; exact hkn)] at r1
        obtain ⟨vx, hvx⟩ : ∃ vx, vx = cvA (X[k]'(by rw [unhide HX]; exact hkn)) := ⟨_, rfl⟩
        rw [← hvx] at r1 r2
        have x0 : ∀ P : Bel wr, (ldA (.pointer (some ⟨b1, o1 + k * 4, none⟩))).run Tryz.prog P.W = .ok vx P.W := fun P => r1 P.W P.h
        have y0 : ∀ P : Bel wr, (ldA (.pointer (some ⟨b2, o2 + k * 4, none⟩))).run Tryz.prog P.W = .ok vx P.W := fun P => r2 P.W P.h
        have HSM : Hid (∀ P : Bel wr, Calls Tryz.prog 113 #[vx, vx] P.W fun e w'' => e = .returned (.bool true) ∧ ∃ q : Bel wr, w'' = q.W) := fun P => by
          rw [hvx]
          exact (eqkA _ P.W).mono (fun e w' ⟨h1, h2⟩ => ⟨h1, ⟨w', P.h.trans (h2.mono P.h.size)⟩, rfl⟩)
        subst hK
        have hI1 : (k : Int) < (n : Int) := by omega
        have hI2 : ¬ (n : Int) ≤ (k : Int) := by omega
        have hN2 : ¬ n ≤ k := by omega
        have hD2 : decide (n ≤ k) = false := decide_eq_false hN2
        clear r1 r2 hvx hb hk HK hKt
        go_wp2_with fail
        refine wp_region_quiet_below (by kernel_rfl) (by kernel_rfl) ?_
        repeat (go_big_quiet_step (first | (go_at_call 113; refine unhide HSM _)))
        refine wpQuiet_nil ?_
        rintro _ ⟨P, rfl⟩
        clear x0 y0
        go_wp2_with fail
        exact ⟨⟨k + 1, (k : Int) + 1, by omega, by go_num, by omega, (unhide HB).trans (P.h.mono (unhide HB).size)⟩, by simp [intOf]; omega⟩
      · obtain ⟨j, hjk⟩ : ∃ j, k = n + j := ⟨k - n, by omega⟩
        have ej : ∀ h, (X ++ mklA 700000 64)[k]'h = mkA 700000 j := fun h => by
          have e9 : (X ++ mklA 700000 64)[k]? = some (mkA 700000 j) := by
            rw [List.getElem?_append_right (by rw [unhide HX]; omega), unhide HX, show k - n = j by omega, List.getElem?_eq_getElem (by rw [mklA_len]; omega), mklA_get]
          rw [List.getElem?_eq_getElem h] at e9
          exact Option.some.inj e9
        rw [ej] at r1
        obtain ⟨vx, hvx⟩ : ∃ vx, vx = cvA (mkA 700000 j) := ⟨_, rfl⟩
        rw [← hvx] at r1
        have x0 : ∀ P : Bel wr, (ldA (.pointer (some ⟨b1, o1 + k * 4, none⟩))).run Tryz.prog P.W = .ok vx P.W := fun P => r1 P.W P.h
        have hI1 : ¬ K < (n : Int) := by omega
        have hI2 : (n : Int) ≤ K := by omega
        have hI3 : K - (n : Int) = (j : Int) := by omega
        have hwj : IntKind.i64.wrap (j : Int) = (j : Int) := by rw [IntKind.wrap_i64]; omega
        have hwK : IntKind.i64.wrap (K - (n : Int)) = (j : Int) := by rw [hI3, hwj]
        have hD1 : decide (K < (n : Int)) = false := decide_eq_false hI1
        have hD2 : decide ((n : Int) ≤ K) = true := decide_eq_true hI2
        have HMK : Hid (∀ P : Bel wr, Calls Tryz.prog 101 #[.int .i64 700000, .int .i64 (j : Int)] P.W fun e w'' => e = .returned vx ∧ ∃ q : Bel wr, w'' = q.W) := fun P => by
          rw [hvx]
          exact (markA 700000 j (by omega) (by omega) P.W (((unhide HP).below hb).below P.h)).mono (fun e w' ⟨h1, h2⟩ => ⟨h1, ⟨w', P.h.trans (h2.mono P.h.size)⟩, rfl⟩)
        have HSM : Hid (∀ P : Bel wr, Calls Tryz.prog 113 #[vx, vx] P.W fun e w'' => e = .returned (.bool true) ∧ ∃ q : Bel wr, w'' = q.W) := fun P => by
          rw [hvx]
          exact (eqkA _ P.W).mono (fun e w' ⟨h1, h2⟩ => ⟨h1, ⟨w', P.h.trans (h2.mono P.h.size)⟩, rfl⟩)
        clear r1 hvx hb hK hlt hk hkn hjk ej
        go_wp2_with fail
        refine wp_region_quiet_below (by kernel_rfl) (by kernel_rfl) ?_
        repeat (go_big_quiet_step (first | (go_at_call 113; refine unhide HSM _) | (go_at_call 101; refine unhide HMK _)))
        refine wpQuiet_nil ?_
        rintro _ ⟨P, rfl⟩
        clear x0
        go_wp2_with fail
        exact ⟨⟨k + 1, K + 1, by have := unhide HK; omega, by go_num, by have := unhide HK; omega, (unhide HB).trans (P.h.mono (unhide HB).size)⟩, by have := unhide HK; simp [intOf]; omega⟩
    · have hI : ¬ K < (n : Int) + 64 := by omega
      clear hb hK
      go_wp2_with fail
      go_ret
      exact ⟨rfl, unhide HB⟩
end Go.Proofs.YtcafhmlpmbkhkaaGreatDoor.Kg
namespace Go.Proofs.YtcafhmlpmbkhkaaGreatDoor
open Go Go.Shelf Go.ChangeShapes Go.WideShapes Go.ChangeAt Go.RowKit Go.Maps
set_option linter.unusedVariables false
set_option linter.unusedSimpArgs false
def zzU (x : Po) : Po := ⟨x.seq, x.lin, x.day, x.kin, x.key, x.acc, 11, x.tag, x.mem⟩
theorem flat_set6 : ∀ (L : List Po) (q : Nat) (y : Po), L[q]? = some y → (kU.flat L).set (q * 9 + 6) (.int .i64 11) = kU.flat (L.set q (zzU y))
  | [], _, _, h => by simp at h
  | x :: L, 0, y, h => by
    simp at h
    subst h
    rfl
  | x :: L, q + 1, y, h => by
    have ih := flat_set6 L q y (by simpa using h)
    have e1 : kU.flat (x :: L) = x.vals ++ kU.flat L := rfl
    have e2 : kU.flat ((x :: L).set (q + 1) (zzU y)) = x.vals ++ kU.flat (L.set q (zzU y)) := rfl
    rw [e1, e2, ← ih]
    have hv : x.vals.length = 9 := rfl
    rw [List.set_append_right _ _ (by rw [hv]; omega), hv, show (q + 1) * 9 + 6 - 9 = q * 9 + 6 by omega]
def upU (X : List Po) (q : Nat) : List Po := (X[q]?).elim X fun y => X.set q (zzU y)
theorem upU_len (X : List Po) (q : Nat) : (upU X q).length = X.length := by
  unfold upU
  cases X[q]? <;> simp
theorem upU_ok {X : List Po} (h : ∀ x ∈ X, PoOk x) (q : Nat) : ∀ x ∈ upU X q, PoOk x := fun x hx => by
  unfold upU at hx
  cases hq : X[q]? with
  | none => rw [hq] at hx; exact h x hx
  | some y =>
    rw [hq] at hx
    have hy := h y (List.mem_of_getElem? hq)
    rcases List.mem_or_eq_of_mem_set hx with h1 | rfl
    · exact h x h1
    · exact ⟨hy.acc, hy.day, by show fits64 11; unfold fits64; omega⟩
end Go.Proofs.YtcafhmlpmbkhkaaGreatDoor
namespace Go.Proofs.YtcafhmlpmbkhkaaGreatDoor
open Go.Deep Go Go.RowKit Go.Shelf Go.ChangeShapes Go.WideShapes Go.ChangeAt Go.Maps
set_option linter.unusedVariables false
set_option linter.unusedSimpArgs false
set_option maxRecDepth 100000
set_option maxHeartbeats 8000000
theorem cells63 : Tryz.prog.cellsOf 63 = 9 := by kernel_rfl
theorem clU {α : Type} {cs : List α} (h : cs.length = 9) : ∃ c0 c1 c2 c3 c4 c5 c6 c7 c8, cs = [c0, c1, c2, c3, c4, c5, c6, c7, c8] := by
  match cs, h with
  | [c0, c1, c2, c3, c4, c5, c6, c7, c8], _ => exact ⟨c0, c1, c2, c3, c4, c5, c6, c7, c8, rfl⟩
def wU (x : Po) : Nat := x.key.size + x.acc.size + x.tag.size + x.mem.size + 1
structure IU (x : Po) : Prop where
  seq : -9223372036854775808 ≤ x.seq ∧ x.seq ≤ 9223372036854775807
  lin : -9223372036854775808 ≤ x.lin ∧ x.lin ≤ 9223372036854775807
  day : -9223372036854775808 ≤ x.day ∧ x.day ≤ 9223372036854775807
  kin : -9223372036854775808 ≤ x.kin ∧ x.kin ≤ 9223372036854775807
  amt : -9223372036854775808 ≤ x.amt ∧ x.amt ≤ 9223372036854775807
section
variable {H : Type} {enc : TypeId × Value → H} {W : World}
theorem trodSU {P : Program} {w : World} {base : Nat} {spare : Nat → Bool} {held : Bool} {t : TypeId} {f0 f1 f2 f3 f4 f5 f6 f7 f8 : Field} {fuel : Nat} {cs : List Value} {x : DataW H × List MemPlace} (ht : P.underlying t = some (.struct #[f0, f1, f2, f3, f4, f5, f6, f7, f8])) (h : DataW.trod enc P w base spare held fuel t cs = some x) :
    ∃ (y0 y1 y2 y3 y4 y5 y6 y7 y8 : DataW H × List MemPlace) (n : Nat), x.1 = .agg [y0.1, y1.1, y2.1, y3.1, y4.1, y5.1, y6.1, y7.1, y8.1] ∧ cs.length = P.cellsOf t ∧ DataW.trod enc P w base spare held n f0.type ((cs.drop f0.offset).take (P.cellsOf f0.type)) = some y0 ∧ DataW.trod enc P w base spare held n f1.type ((cs.drop f1.offset).take (P.cellsOf f1.type)) = some y1 ∧ DataW.trod enc P w base spare held n f2.type ((cs.drop f2.offset).take (P.cellsOf f2.type)) = some y2 ∧ DataW.trod enc P w base spare held n f3.type ((cs.drop f3.offset).take (P.cellsOf f3.type)) = some y3 ∧ DataW.trod enc P w base spare held n f4.type ((cs.drop f4.offset).take (P.cellsOf f4.type)) = some y4 ∧ DataW.trod enc P w base spare held n f5.type ((cs.drop f5.offset).take (P.cellsOf f5.type)) = some y5 ∧ DataW.trod enc P w base spare held n f6.type ((cs.drop f6.offset).take (P.cellsOf f6.type)) = some y6 ∧ DataW.trod enc P w base spare held n f7.type ((cs.drop f7.offset).take (P.cellsOf f7.type)) = some y7 ∧ DataW.trod enc P w base spare held n f8.type ((cs.drop f8.offset).take (P.cellsOf f8.type)) = some y8 := by
  obtain ⟨xs, n, _, rfl, hl, hlen, hf⟩ := DataW.trod_struct ht h
  match xs, hlen with
  | [y0, y1, y2, y3, y4, y5, y6, y7, y8], _ => exact ⟨y0, y1, y2, y3, y4, y5, y6, y7, y8, n, by simp, hl, by simpa using hf 0 f0 rfl, by simpa using hf 1 f1 rfl, by simpa using hf 2 f2 rfl, by simpa using hf 3 f3 rfl, by simpa using hf 4 f4 rfl, by simpa using hf 5 f5 rfl, by simpa using hf 6 f6 rfl, by simpa using hf 7 f7 rfl, by simpa using hf 8 f8 rfl⟩
theorem openU {fuel : Nat} {cs : List Value} {x : DataW H × List MemPlace} (h : DataW.trod enc Tryz.prog W 0 (fun _ => true) true fuel 63 cs = some x) :
    ∃ r : Po, cs = r.vals ∧ wU r ≤ Rows.uptoBulk x.1 ∧ IU r := by
  obtain ⟨y0, y1, y2, y3, y4, y5, y6, y7, y8, n, hx, hl, g0, g1, g2, g3, g4, g5, g6, g7, g8⟩ := trodSU Tryz.underlying63 h
  rw [cells63] at hl
  obtain ⟨c0, c1, c2, c3, c4, c5, c6, c7, c8, rfl⟩ := clU hl
  clear h hl
  simp only [cells2, cells3, cells4, cells9, List.drop_zero, List.drop_succ_cons, List.take_succ_cons, List.take_zero] at g0 g1 g2 g3 g4 g5 g6 g7 g8
  obtain ⟨s0, e0, _, z0⟩ := DataW.trod_int Tryz.underlying3 g0
  obtain ⟨s1, e1, _, z1⟩ := DataW.trod_int Tryz.underlying3 g1
  obtain ⟨s2, e2, _, z2⟩ := DataW.trod_int Tryz.underlying3 g2
  obtain ⟨s3, e3, _, z3⟩ := DataW.trod_int Tryz.underlying3 g3
  obtain ⟨s4, e4, x4, _⟩ := DataW.trod_string Tryz.underlying9 g4
  obtain ⟨s5, e5, x5, _⟩ := DataW.trod_string Tryz.underlying9 g5
  obtain ⟨s6, e6, _, z6⟩ := DataW.trod_int Tryz.underlying2 g6
  obtain ⟨s7, e7, x7, _⟩ := DataW.trod_string Tryz.underlying9 g7
  obtain ⟨s8, e8, x8, _⟩ := DataW.trod_string Tryz.underlying9 g8
  simp only [List.cons.injEq, and_true] at e0 e1 e2 e3 e4 e5 e6 e7 e8
  refine ⟨⟨s0, s1, s2, s3, s4, s5, s6, s7, s8⟩, by rw [e0, e1, e2, e3, e4, e5, e6, e7, e8]; rfl, ?_, ⟨i64_in z0, i64_in z1, i64_in z2, i64_in z3, i64_in z6⟩⟩
  show s4.size + s5.size + s7.size + s8.size + 1 ≤ _
  rw [hx]
  have b4 : Rows.uptoBulk y4.1 = s4.size + 1 := by rw [x4]; simp [Rows.uptoBulk]
  have b5 : Rows.uptoBulk y5.1 = s5.size + 1 := by rw [x5]; simp [Rows.uptoBulk]
  have b7 : Rows.uptoBulk y7.1 = s7.size + 1 := by rw [x7]; simp [Rows.uptoBulk]
  have b8 : Rows.uptoBulk y8.1 = s8.size + 1 := by rw [x8]; simp [Rows.uptoBulk]
  simp only [Rows.uptoBulk, Rows.uptoBulkAll]
  omega
theorem opensU {fuel : Nat} {v : Value} {x : DataW H × List MemPlace} (h : DataW.trod enc Tryz.prog W 0 (fun _ => true) true fuel 56 [v] = some x) :
    ∃ (p : Option Addr) (c : Nat) (L : List Po), v = .slice p L.length c ∧ (p = none → c = 0) ∧ Lies kU W p L ∧ (L.map wU).sum + 1 ≤ Rows.uptoBulk x.1 ∧ ∀ y ∈ L, IU y := by
  rcases open_slice Tryz.underlying56 h with ⟨hcs, hx⟩ | ⟨a, len, cap, m, n, D, Pl, hcs, hb, hl, hm, hmm, hx, hall⟩
  · simp only [List.cons.injEq, and_true] at hcs
    exact ⟨none, 0, [], hcs, fun _ => rfl, Lies.nil _ _, by have := one_le x.1; simpa using this, fun y hy => (by cases hy)⟩
  · simp only [List.cons.injEq, and_true] at hcs
    have hmm' : m = cap := by simpa using hmm
    have hd : x.1 = .slice ((List.range len).map D) ((List.range (m - len)).map fun j => D (len + j)) := (Prod.mk.inj hx).1
    have hq : ∀ i, i < len → ∃ y : Po, (∃ b off, some a = some (⟨b, off, none⟩ : Addr) ∧ b < W.heap.size ∧ W.rangeAt b (off + i * 9) y.vals) ∧ wU y ≤ Rows.uptoBulk (D i) ∧ IU y := fun i hi => by
      obtain ⟨cs', h1, h2⟩ := hall i (by omega)
      obtain ⟨y, hy, hwt, hpo⟩ := openU h2
      rw [cells63] at h1
      obtain ⟨_, hlen, hc⟩ := World.cells?_some h1
      have hs : a.spot = none := by
        obtain ⟨cz, hz1, hz2⟩ := hall 0 (by omega)
        obtain ⟨rz, hrz, _, _⟩ := openU hz2
        rw [cells63] at hz1
        obtain ⟨_, _, hcz⟩ := World.cells?_some hz1
        have h3 := hcz 0 (by omega)
        rw [hrz] at h3
        simpa [Addr.add] using World.cell?_spot h3
      obtain ⟨b, off, sp⟩ := a
      simp only at hs
      subst hs
      refine ⟨y, ⟨b, off, rfl, ?_, fun j u hj => ?_⟩, hwt, hpo⟩
      · have h3 := hc 0 (by omega)
        rw [hy] at h3
        rw [add_add, Addr.add_mid] at h3
        exact World.block_lt_of_cell? W _ h3
      · have hj' : j < 9 := (List.getElem?_eq_some_iff.1 hj).1
        have h3 := hc j hj'
        rw [hy, hj, add_add, Addr.add_mid, ← Nat.add_assoc] at h3
        exact h3
    obtain ⟨L, hL, hall⟩ := choose_list len hq
    have hsum := sum_bulk wU D L (fun i hi => (hall i hi).2.1)
    refine ⟨some a, cap, L, by rw [hL]; exact hcs, (fun h => by cases h), ⟨(fun h => by cases h), fun k hk => (hall k hk).1⟩, ?_, fun y hy => ?_⟩
    · rw [hd]
      simp only [Rows.uptoBulk]
      rw [hL] at hsum
      omega
    · obtain ⟨k, hk, rfl⟩ := List.mem_iff_getElem.1 hy
      exact (hall k hk).2.2
theorem argU {base : Nat} {v : Value} {d : DataW H} {p : List MemPlace} (hok : Value.okWide Tryz.prog W .any base 56 v) (h : ∃ fuel, DataW.trod enc Tryz.prog W 0 (fun _ => true) true fuel 56 v.cells.toList = some (d, p)) (hk : Rows.uptoBulk d ≤ 1048576) :
    ∃ pX cX X, v = .slice pX (X : List Po).length cX ∧ (pX = none → cX = 0) ∧ Lies kU W pX X ∧ X.length ≤ 1048576 ∧ (∀ y ∈ X, wU y ≤ 1048576 ∧ IU y) := by
  obtain ⟨a0, len0, cap0, rfl⟩ := okWide_slice Tryz.underlying56 hok
  obtain ⟨fuel, hf⟩ := h
  obtain ⟨pX, cX, X, e, h0, hl, hs, hi⟩ := opensU hf
  have lX := len_sum wU (fun x => by unfold wU; omega) X
  have hs' : (X.map wU).sum + 1 ≤ Rows.uptoBulk d := hs
  refine ⟨pX, cX, X, e, h0, hl, by omega, fun y hy => ⟨?_, hi y hy⟩⟩
  have := mem_sum wU hy
  omega
end
end Go.Proofs.YtcafhmlpmbkhkaaGreatDoor
namespace Go.Proofs.YtcafhmlpmbkhkaaGreatDoor
open Go.Deep Go Go.RowKit Go.Shelf Go.ChangeShapes Go.WideShapes Go.ChangeAt Go.Maps
set_option linter.unusedVariables false
set_option linter.unusedSimpArgs false
set_option maxRecDepth 100000
set_option maxHeartbeats 8000000
theorem cells139 : Tryz.prog.cellsOf 139 = 4 := by kernel_rfl
theorem clA {α : Type} {cs : List α} (h : cs.length = 4) : ∃ c0 c1 c2 c3, cs = [c0, c1, c2, c3] := by
  match cs, h with
  | [c0, c1, c2, c3], _ => exact ⟨c0, c1, c2, c3, rfl⟩
def wA (x : Ch.Ac) : Nat := (Ch.txN x.nm).size + 1
structure IA (x : Ch.Ac) : Prop where
  ty : -9223372036854775808 ≤ x.ty ∧ x.ty ≤ 9223372036854775807
  dy : -9223372036854775808 ≤ x.dy ∧ x.dy ≤ 9223372036854775807
section
variable {H : Type} {enc : TypeId × Value → H} {W : World}
theorem trodSA {P : Program} {w : World} {base : Nat} {spare : Nat → Bool} {held : Bool} {t : TypeId} {f0 f1 f2 f3 : Field} {fuel : Nat} {cs : List Value} {x : DataW H × List MemPlace} (ht : P.underlying t = some (.struct #[f0, f1, f2, f3])) (h : DataW.trod enc P w base spare held fuel t cs = some x) :
    ∃ (y0 y1 y2 y3 : DataW H × List MemPlace) (n : Nat), x.1 = .agg [y0.1, y1.1, y2.1, y3.1] ∧ cs.length = P.cellsOf t ∧ DataW.trod enc P w base spare held n f0.type ((cs.drop f0.offset).take (P.cellsOf f0.type)) = some y0 ∧ DataW.trod enc P w base spare held n f1.type ((cs.drop f1.offset).take (P.cellsOf f1.type)) = some y1 ∧ DataW.trod enc P w base spare held n f2.type ((cs.drop f2.offset).take (P.cellsOf f2.type)) = some y2 ∧ DataW.trod enc P w base spare held n f3.type ((cs.drop f3.offset).take (P.cellsOf f3.type)) = some y3 := by
  obtain ⟨xs, n, _, rfl, hl, hlen, hf⟩ := DataW.trod_struct ht h
  match xs, hlen with
  | [y0, y1, y2, y3], _ => exact ⟨y0, y1, y2, y3, n, by simp, hl, by simpa using hf 0 f0 rfl, by simpa using hf 1 f1 rfl, by simpa using hf 2 f2 rfl, by simpa using hf 3 f3 rfl⟩
theorem openA {fuel : Nat} {cs : List Value} {x : DataW H × List MemPlace} (h : DataW.trod enc Tryz.prog W 0 (fun _ => true) true fuel 139 cs = some x) :
    ∃ r : Ch.Ac, cs = Ch.kA.enc r ∧ wA r ≤ Rows.uptoBulk x.1 ∧ IA r := by
  obtain ⟨y0, y1, y2, y3, n, hx, hl, g0, g1, g2, g3⟩ := trodSA Tryz.underlying139 h
  rw [cells139] at hl
  obtain ⟨c0, c1, c2, c3, rfl⟩ := clA hl
  clear h hl
  simp only [cells2, cells3, cells4, cells9, List.drop_zero, List.drop_succ_cons, List.take_succ_cons, List.take_zero] at g0 g1 g2 g3
  obtain ⟨s0, e0, x0, _⟩ := DataW.trod_string Tryz.underlying9 g0
  obtain ⟨s1, e1, _, z1⟩ := DataW.trod_int Tryz.underlying3 g1
  obtain ⟨s2, e2, _, z2⟩ := DataW.trod_int Tryz.underlying3 g2
  obtain ⟨s3, e3, _⟩ := DataW.trod_bool Tryz.underlying4 g3
  simp only [List.cons.injEq, and_true] at e0 e1 e2 e3
  refine ⟨⟨s0.data.toList, s1, s2, s3⟩, by rw [e0, e1, e2, e3]; rfl, ?_, ⟨i64_in z1, i64_in z2⟩⟩
  show s0.size + 1 ≤ _
  rw [hx]
  have b0 : Rows.uptoBulk y0.1 = s0.size + 1 := by rw [x0]; simp [Rows.uptoBulk]
  simp only [Rows.uptoBulk, Rows.uptoBulkAll]
  omega
theorem opensA {fuel : Nat} {v : Value} {x : DataW H × List MemPlace} (h : DataW.trod enc Tryz.prog W 0 (fun _ => true) true fuel 55 [v] = some x) :
    ∃ (p : Option Addr) (c : Nat) (L : List Ch.Ac), v = .slice p L.length c ∧ (p = none → c = 0) ∧ Lies Ch.kA W p L ∧ (L.map wA).sum + 1 ≤ Rows.uptoBulk x.1 ∧ ∀ y ∈ L, IA y := by
  rcases open_slice Tryz.underlying55 h with ⟨hcs, hx⟩ | ⟨a, len, cap, m, n, D, Pl, hcs, hb, hl, hm, hmm, hx, hall⟩
  · simp only [List.cons.injEq, and_true] at hcs
    exact ⟨none, 0, [], hcs, fun _ => rfl, Lies.nil _ _, by have := one_le x.1; simpa using this, fun y hy => (by cases hy)⟩
  · simp only [List.cons.injEq, and_true] at hcs
    have hmm' : m = cap := by simpa using hmm
    have hd : x.1 = .slice ((List.range len).map D) ((List.range (m - len)).map fun j => D (len + j)) := (Prod.mk.inj hx).1
    have hq : ∀ i, i < len → ∃ y : Ch.Ac, (∃ b off, some a = some (⟨b, off, none⟩ : Addr) ∧ b < W.heap.size ∧ W.rangeAt b (off + i * 4) (Ch.kA.enc y)) ∧ wA y ≤ Rows.uptoBulk (D i) ∧ IA y := fun i hi => by
      obtain ⟨cs', h1, h2⟩ := hall i (by omega)
      obtain ⟨y, hy, hwt, hpo⟩ := openA h2
      rw [cells139] at h1
      obtain ⟨_, hlen, hc⟩ := World.cells?_some h1
      have hs : a.spot = none := by
        obtain ⟨cz, hz1, hz2⟩ := hall 0 (by omega)
        obtain ⟨rz, hrz, _, _⟩ := openA hz2
        rw [cells139] at hz1
        obtain ⟨_, _, hcz⟩ := World.cells?_some hz1
        have h3 := hcz 0 (by omega)
        rw [hrz] at h3
        simpa [Addr.add] using World.cell?_spot h3
      obtain ⟨b, off, sp⟩ := a
      simp only at hs
      subst hs
      refine ⟨y, ⟨b, off, rfl, ?_, fun j u hj => ?_⟩, hwt, hpo⟩
      · have h3 := hc 0 (by omega)
        rw [hy] at h3
        rw [add_add, Addr.add_mid] at h3
        exact World.block_lt_of_cell? W _ h3
      · have hj' : j < 4 := (List.getElem?_eq_some_iff.1 hj).1
        have h3 := hc j hj'
        rw [hy, hj, add_add, Addr.add_mid, ← Nat.add_assoc] at h3
        exact h3
    obtain ⟨L, hL, hall⟩ := choose_list len hq
    have hsum := sum_bulk wA D L (fun i hi => (hall i hi).2.1)
    refine ⟨some a, cap, L, by rw [hL]; exact hcs, (fun h => by cases h), ⟨(fun h => by cases h), fun k hk => (hall k hk).1⟩, ?_, fun y hy => ?_⟩
    · rw [hd]
      simp only [Rows.uptoBulk]
      rw [hL] at hsum
      omega
    · obtain ⟨k, hk, rfl⟩ := List.mem_iff_getElem.1 hy
      exact (hall k hk).2.2
theorem argA {base : Nat} {v : Value} {d : DataW H} {p : List MemPlace} (hok : Value.okWide Tryz.prog W .any base 55 v) (h : ∃ fuel, DataW.trod enc Tryz.prog W 0 (fun _ => true) true fuel 55 v.cells.toList = some (d, p)) (hk : Rows.uptoBulk d ≤ 1048576) :
    ∃ pX cX X, v = .slice pX (X : List Ch.Ac).length cX ∧ (pX = none → cX = 0) ∧ Lies Ch.kA W pX X ∧ X.length ≤ 1048576 ∧ (∀ y ∈ X, wA y ≤ 1048576 ∧ IA y) := by
  obtain ⟨a0, len0, cap0, rfl⟩ := okWide_slice Tryz.underlying55 hok
  obtain ⟨fuel, hf⟩ := h
  obtain ⟨pX, cX, X, e, h0, hl, hs, hi⟩ := opensA hf
  have lX := len_sum wA (fun x => by unfold wA; omega) X
  have hs' : (X.map wA).sum + 1 ≤ Rows.uptoBulk d := hs
  refine ⟨pX, cX, X, e, h0, hl, by omega, fun y hy => ⟨?_, hi y hy⟩⟩
  have := mem_sum wA hy
  omega
end
end Go.Proofs.YtcafhmlpmbkhkaaGreatDoor
