import Derived.Test.YtcafhmlpmbkhkaaGreatDoorW09
import Derived.Test.YtcafhmlpmbkhkaaGreatDoorW10
import Derived.Laws.StructEq
import Derived.Test.YtcafhmlpmbkhkaaGreatDoorW05
import Derived.Test.YtcafhmlpmbkhkaaGreatDoorW17
import Derived.Test.YtcafhmlpmbkhkaaGreatDoorW26
/- The keeper's columns: mark 36, same 58, Room 9, Kept 13. -/
namespace Go.Proofs.YtcafhmlpmbkhkaaGreatDoor.Kg
open Go Go.Shelf Go.ChangeShapes Go.WideShapes Go.ChangeAt Go.RowKit Go.Maps
set_option linter.unusedVariables false
set_option linter.unusedSimpArgs false
def mkM (id k : Nat) : Cm := ⟨mkS id k, -(k : Int) - 1, 0⟩
def mklM (id n : Nat) : List Cm := (List.range n).map (mkM id)
theorem mklM_len (id n : Nat) : (mklM id n).length = n := by simp [mklM]
theorem mklM_get (id n k : Nat) (h : k < (mklM id n).length) : (mklM id n)[k] = mkM id k := by simp [mklM]
theorem mklM_succ (id n : Nat) : mklM id (n + 1) = mklM id n ++ [mkM id n] := by simp [mklM, List.range_succ]
theorem retM {tmps : Array Value} {w : World} {b : Nat} {x : Cm} (hp : tmps[4]?.getD undef = .pointer (some ⟨b, 0, none⟩)) (h : w.heap[b]? = some (.cells #[.string x.acc, .int .i64 x.deb, .int .i64 x.cre] 31 (0, 0))) :
    (results Tryz.f36 tmps).run Tryz.prog w = .ok (cvM x) w := by
  have q0 : w.cell? ⟨b, 0, none⟩ = some (.string x.acc) := by rw [cell_at h]; rfl
  have q1 : w.cell? ⟨b, 1, none⟩ = some (.int .i64 x.deb) := by rw [cell_at h]; rfl
  have q2 : w.cell? ⟨b, 2, none⟩ = some (.int .i64 x.cre) := by rw [cell_at h]; rfl
  simp [results, hp, asAddr, go_sem, q0, q1, q2, cvM]
set_option maxRecDepth 100000 in
set_option maxHeartbeats 2000000 in
theorem markM (id k : Nat) (hid : id < 1000000) (hk : k < 1000000) (w : World) (h : Pw w) : Calls Tryz.prog 36 #[.int .i64 (id : Int), .int .i64 (k : Int)] w fun e w' => e = .returned (cvM (mkM id k)) ∧ Below w.heap.size w w' := by
  obtain ⟨w1, hw1⟩ : ∃ w1, w1 = w.alloc (.cells #[.string ⟨#[]⟩, .int .i64 0, .int .i64 0] 31) := ⟨_, rfl⟩
  have b1 : Below w.heap.size w w1 := by rw [hw1]; exact bal (Below.refl _ _) _
  have z1 : w1.heap.size = w.heap.size + 1 := by rw [hw1]; simp
  have d := hide (text_any id k hid hk w1 (h.below b1))
  have hR1 : w1.heap[w.heap.size]? = some (.cells #[.string ⟨#[]⟩, .int .i64 0, .int .i64 0] 31 (0, 0)) := by rw [hw1]; exact heap_new _ _
  have HR := hide hR1
  have H1 := hide hw1
  have B1 := hide b1
  have s0 : -9223372036854775808 ≤ -(k : Int) := by omega
  have s1 : -(k : Int) ≤ 9223372036854775807 := by omega
  have s2 : -9223372036854775808 ≤ -(k : Int) - 1 := by omega
  have s3 : -(k : Int) - 1 ≤ 9223372036854775807 := by omega
  clear h hw1 b1 hR1
  go_enter Tryz.func36, Tryz.ntmps36
  go_wp2_with fail
  rw [← unhide H1]
  refine (unhide d).mono ?_
  rintro e w2 ⟨rfl, hg⟩
  have hb2 := hg.below
  have hR2 := (hb2.block w.heap.size (by omega)).trans (unhide HR)
  have q0 : w2.cell? ⟨w.heap.size, 0, none⟩ = some (.string ⟨#[]⟩) := by rw [cell_at hR2]; rfl
  have f0 : w2.frozen? ⟨w.heap.size, 0, none⟩ = false := froz_at hR2
  have q1 : w2.cell? ⟨w.heap.size, 1, none⟩ = some (.int .i64 0) := by rw [cell_at hR2]; rfl
  have f1 : w2.frozen? ⟨w.heap.size, 1, none⟩ = false := froz_at hR2
  have q2 : w2.cell? ⟨w.heap.size, 2, none⟩ = some (.int .i64 0) := by rw [cell_at hR2]; rfl
  have f2 : w2.frozen? ⟨w.heap.size, 2, none⟩ = false := froz_at hR2
  have HR2 := hide hR2
  have B2 : Hid (Below w.heap.size w w2) := (unhide B1).trans (hb2.mono (unhide B1).size)
  clear hg hb2 hR2
  go_wp2_with fail
  refine bodyPost_ret (retM (b := w.heap.size) (x := mkM id k) (by rfl) ?_) rfl ⟨rfl, ?_⟩
  · rw [Go.heap_setCell_same _ _ _ _ _ _ (Go.heap_setCell_same _ _ _ _ _ _ (Go.heap_setCell_same _ _ _ _ _ _ (unhide HR2)))]
    rfl
  · exact ((((unhide B2).setCell (p := ⟨w.heap.size, 0, none⟩) (Nat.le_refl _) _).setCell (p := ⟨w.heap.size, 1, none⟩) (Nat.le_refl _) _).setCell (p := ⟨w.heap.size, 2, none⟩) (Nat.le_refl _) _)
set_option maxRecDepth 100000 in
set_option maxHeartbeats 2000000 in
theorem eqkM (x : Cm) (w : World) : Calls Tryz.prog 58 #[cvM x, cvM x] w fun e w' => e = .returned (.bool true) ∧ Below w.heap.size w w' := by
  have sd : Tryz.prog.underlying 31 = some (.struct (Tryz.prog.fieldsOf 31)) := by kernel_rfl
  have sh : Tryz.prog.stoodInHeld 31 = false := by kernel_rfl
  have eg : Tryz.prog.eqGuardType Tryz.prog.depth 31 = false := by kernel_rfl
  have heq : ∀ w, (Op.equalIn 10000 31 (.agg #[.string x.acc, .int .i64 x.deb, .int .i64 x.cre]) (.agg #[.string x.acc, .int .i64 x.deb, .int .i64 x.cre])).run Tryz.prog w = .ok true w := fun w => by
    rw [run_equalIn_agg w 9999 31 _ _ sd sh]
    have fl : (Tryz.prog.fieldsOf 31).toList.map (fun f => (f.type, f.offset, f.name == "_")) = [(9, 0, false), (2, 1, false), (2, 2, false)] := by kernel_rfl
    obtain ⟨f0, f1, f2, hf⟩ : ∃ f0 f1 f2, (Tryz.prog.fieldsOf 31).toList = [f0, f1, f2] := by
      have h := congrArg List.length fl
      rw [List.length_map] at h
      match hq : (Tryz.prog.fieldsOf 31).toList, h with
      | [f0, f1, f2], _ => exact ⟨f0, f1, f2, rfl⟩
    have h := fl
    rw [hf] at h ⊢
    simp at h
    simp [Op.eqFields, go_sem, h, Tryz.underlying9, Tryz.underlying2, Tryz.underlying3, Tryz.underlying4]
  unfold cvM
  go_enter Tryz.func58, Tryz.ntmps58
  go_wp2_with fail
  go_ret
  exact ⟨rfl, bal (bal (Below.refl _ _) _) _⟩
/-- what Room hands back -/
def RoomOutM (X : List Cm) (n : Nat) (w : World) (e : Ending) (w' : World) : Prop :=
  ∃ g c, e = .returned (.slice (some ⟨g, 0, none⟩) (n + 64) c) ∧ w'.ownsRow w.heap.size 31 3 (.slice (some ⟨g, 0, none⟩) (n + 64) c) (n + 64) (kM.flat (X ++ mklM 700000 64)) ∧ Below w.heap.size w w'
/-- the copy while marks are put behind it -/
structure RoomAtM (X : List Cm) (n : Nat) (w : World) (j : Nat) (v : Value) (wr : World) : Prop where
  own : wr.ownsRow w.heap.size 31 3 v (n + j) (kM.flat (X ++ mklM 700000 j))
  bel : Below w.heap.size w wr
theorem own_lit0M (w : World) : (w.alloc (.cells #[] 31)).ownsRow w.heap.size 31 3 (.slice (some ⟨w.heap.size, 0, none⟩) 0 0) 0 (kM.flat []) := by
  refine ⟨by simp [Kd.flat], .inr ⟨w.heap.size, 0, #[], rfl, Nat.le_refl _, ?_, Nat.le_refl _, Nat.zero_le _, by simp, by simp [Kd.flat]⟩⟩
  exact heap_new w _
set_option maxRecDepth 100000 in
set_option maxHeartbeats 4000000 in
theorem roomM (X : List Cm) (pp : Option Addr) (n cc : Nat) (hX : X.length = n) (hcc : pp = none → cc = 0) (hn : n ≤ 1048576) (w : World) (hP : Pw w) (hL : Lies kM w pp X) :
    Calls Tryz.prog 9 #[.slice pp n cc] w fun e w' => RoomOutM X n w e w' := by
  have b0 : Below w.heap.size w (w.alloc (.cells #[] 31)) := bal (Below.refl _ w) _
  obtain ⟨p5, c5, w5, r5, o5, b5, _⟩ := run_app (K := kM) kM_ok (L := []) (M := X) 22 (own_lit0M w) b0.size pp cc hcc (hL.below b0) (by rw [hX]; omega)
  rw [hX, Nat.zero_add] at r5 o5
  rw [List.nil_append] at o5
  have HS : Hid (RoomAtM X n w 0 (.slice p5 n c5) w5) := ⟨by rw [show mklM 700000 0 = [] from rfl, List.append_nil]; exact o5, b0.trans (b5.mono (Nat.le_refl _))⟩
  have HR5 := hide r5; have HPW := hide hP
  clear r5 o5 b5 b0 hP hL hcc hX
  go_enter Tryz.func9, Tryz.ntmps9
  go_wp2_with (at_builtin; refine wpList_append_run rfl _ _ 22 rfl _ _ _ _ rfl rfl (unhide HR5) ?_)
  go_loopw [3, 4] (fun v i wr => ∃ j : Nat, j ≤ 64 ∧ i = .int .i64 (j : Int) ∧ (∃ p' c', v = .slice p' (n + j) c') ∧ Hid (RoomAtM X n w j v wr)) (fun _ i _ => 64 - (intOf i).toNat)
  case atStart => exact ⟨0, by omega, rfl, ⟨_, _, rfl⟩, unhide HS⟩
  case round =>
    obtain ⟨j, hj, rfl, ⟨p7, c7, rfl⟩, HA⟩ := hrel
    have hA := unhide HA
    by_cases hlt : j < 64
    · have hI : (j : Int) < 64 := by omega
      have hmk := hide (markM 700000 j (by omega) (by omega) wr ((unhide HPW).below hA.bel))
      obtain ⟨O, hO⟩ : ∃ O, O = Obj.cells #[.string (mkS 700000 j), .int .i64 (-(j : Int) - 1), .int .i64 0] 31 := ⟨_, rfl⟩
      have HSTEP : Hid (∀ w2, Below wr.heap.size wr w2 → ∃ p' c' w', (Builtin.append_ #[22, 22] 22 #[.slice p7 (n + j) c7, .slice (some ⟨w2.heap.size, 0, none⟩) 1 1]).run Tryz.prog (w2.alloc O) = .ok (.slice p' (n + j + 1) c') w' ∧ RoomAtM X n w (j + 1) (.slice p' (n + j + 1) c') w') := fun w2 hb => by
        have hba := bal hb O
        obtain ⟨p', c', w', r, o, b, _⟩ := run_app (K := kM) kM_ok (M := [mkM 700000 j]) 22 (W := w2.alloc O) (row_keep hA.own fun q hq => hba.block q (hA.own.lt q hq).2) (Nat.le_trans hA.bel.size hba.size) (some ⟨w2.heap.size, 0, none⟩) 1 (fun h => by cases h) (by rw [hO]; exact one_lies w2 (mkM 700000 j) 31 _ rfl) (by rw [List.length_singleton]; omega)
        simp only [List.length_singleton] at r o
        refine ⟨p', c', w', r, ⟨?_, (hA.bel.trans (hba.mono hA.bel.size)).trans b⟩⟩
        rw [mklM_succ, ← List.append_assoc]
        exact o
      clear hA
      unfold cvM at hmk
      simp only [mkM] at hmk
      subst hO
      go_wp2_with fail
      refine (unhide hmk).mono ?_
      rintro e w2 ⟨rfl, hb⟩
      obtain ⟨p', c', w', r, hrel⟩ := unhide HSTEP w2 hb
      have HREL := hide hrel
      clear hb hrel HSTEP
      go_wp2_with (at_builtin; refine wpList_append_run rfl _ _ 22 rfl _ _ _ _ rfl rfl r ?_)
      exact ⟨⟨j + 1, by omega, by go_num, ⟨_, _, rfl⟩, unhide HREL⟩, by simp [intOf]; omega⟩
    · have hj64 : j = 64 := by omega
      subst hj64
      have HF : Hid (∀ e, e = Ending.returned (.slice p7 (n + 64) c7) → RoomOutM X n w e wr) := fun e he => by
        obtain ⟨g, c, hv⟩ := own_open hA.own (by omega)
        injection hv with h1 _ h2
        subst h1 h2
        exact ⟨g, c7, he, hA.own, hA.bel⟩
      clear hA
      go_wp2_with fail
      go_ret
      exact unhide HF _ rfl
attribute [local go_sem ↓] ldM_is
theorem ldBM {w : World} {p : Option Addr} {L : List Cm} (h : Lies kM w p L) {k : Nat} (hk : k < L.length) : ∃ b o, p = some ⟨b, o, none⟩ ∧ ∀ W, Below w.heap.size w W → (ldM (.pointer (some ⟨b, o + k * 3, none⟩))).run Tryz.prog W = .ok (cvM L[k]) W := by
  obtain ⟨b, o, e, hb, hr⟩ := h.2 k hk
  exact ⟨b, o, e, fun W hW => run_ldM (fun j u hu => keep1 hW hb (hr j u hu))⟩
set_option maxRecDepth 100000 in
set_option maxHeartbeats 8000000 in
theorem keptM (X : List Cm) (pp pg : Option Addr) (n cc c : Nat) (hX : X.length = n) (hn : n ≤ 4611686018427387904) (w : World) (hP : Pw w) (hL : Lies kM w pp X) (hG : Lies kM w pg (X ++ mklM 700000 64)) :
    Calls Tryz.prog 13 #[.slice pg (n + 64) c, .slice pp n cc] w fun e w' => e = .returned (.bool true) ∧ Below w.heap.size w w' := by
  have HP := hide hP; have HL := hide hL; have HG := hide hG; have HX := hide hX
  clear hP hL hG hX
  go_enter Tryz.func13, Tryz.ntmps13
  go_wp2_with fail
  go_loopw [5] (fun i wr => ∃ (k : Nat) (K : Int), k ≤ n + 64 ∧ i = .int .i64 K ∧ K = (k : Int) ∧ Hid (Below w.heap.size w wr)) (fun i _ => ((n : Int) + 64 - intOf i).toNat)
  case atStart => exact ⟨0, 0, by omega, rfl, rfl, Below.refl _ _⟩
  case round =>
    obtain ⟨k, K, hk, rfl, hK, HB⟩ := hrel
    have hb := unhide HB
    have HK := hide hK
    have hK0 : 0 ≤ K := by omega
    have hKt : K.toNat = k := by omega
    by_cases hlt : k < n + 64
    · have hI : K < (n : Int) + 64 := by omega
      obtain ⟨b1, o1, e1, r1⟩ := ldBM ((unhide HG).below hb) (k := k) (by rw [List.length_append, unhide HX, mklM_len]; exact hlt)
      subst e1
      by_cases hkn : k < n
      · obtain ⟨b2, o2, e2, r2⟩ := ldBM ((unhide HL).below hb) (k := k) (by rw [unhide HX]; exact hkn)
        subst e2
        rw [List.getElem_append_left (by rw [unhide HX]; exact hkn)] at r1
        obtain ⟨vx, hvx⟩ : ∃ vx, vx = cvM (X[k]'(by rw [unhide HX]; exact hkn)) := ⟨_, rfl⟩
        rw [← hvx] at r1 r2
        have x0 : ∀ P : Bel wr, (ldM (.pointer (some ⟨b1, o1 + k * 3, none⟩))).run Tryz.prog P.W = .ok vx P.W := fun P => r1 P.W P.h
        have y0 : ∀ P : Bel wr, (ldM (.pointer (some ⟨b2, o2 + k * 3, none⟩))).run Tryz.prog P.W = .ok vx P.W := fun P => r2 P.W P.h
        have HSM : Hid (∀ P : Bel wr, Calls Tryz.prog 58 #[vx, vx] P.W fun e w'' => e = .returned (.bool true) ∧ ∃ q : Bel wr, w'' = q.W) := fun P => by
          rw [hvx]
          exact (eqkM _ P.W).mono (fun e w' ⟨h1, h2⟩ => ⟨h1, ⟨w', P.h.trans (h2.mono P.h.size)⟩, rfl⟩)
        subst hK
        have hI1 : (k : Int) < (n : Int) := by omega
        have hI2 : ¬ (n : Int) ≤ (k : Int) := by omega
        have hN2 : ¬ n ≤ k := by omega
        have hD2 : decide (n ≤ k) = false := decide_eq_false hN2
        clear r1 r2 hvx hb hk HK hKt
        go_wp2_with fail
        refine wp_region_quiet_below (by kernel_rfl) (by kernel_rfl) ?_
        repeat (go_big_quiet_step (first | (go_at_call 58; refine unhide HSM _)))
        refine wpQuiet_nil ?_
        rintro _ ⟨P, rfl⟩
        clear x0 y0
        go_wp2_with fail
        exact ⟨⟨k + 1, (k : Int) + 1, by omega, by go_num, by omega, (unhide HB).trans (P.h.mono (unhide HB).size)⟩, by simp [intOf]; omega⟩
      · obtain ⟨j, hjk⟩ : ∃ j, k = n + j := ⟨k - n, by omega⟩
        have ej : ∀ h, (X ++ mklM 700000 64)[k]'h = mkM 700000 j := fun h => by
          have e9 : (X ++ mklM 700000 64)[k]? = some (mkM 700000 j) := by
            rw [List.getElem?_append_right (by rw [unhide HX]; omega), unhide HX, show k - n = j by omega, List.getElem?_eq_getElem (by rw [mklM_len]; omega), mklM_get]
          rw [List.getElem?_eq_getElem h] at e9
          exact Option.some.inj e9
        rw [ej] at r1
        obtain ⟨vx, hvx⟩ : ∃ vx, vx = cvM (mkM 700000 j) := ⟨_, rfl⟩
        rw [← hvx] at r1
        have x0 : ∀ P : Bel wr, (ldM (.pointer (some ⟨b1, o1 + k * 3, none⟩))).run Tryz.prog P.W = .ok vx P.W := fun P => r1 P.W P.h
        have hI1 : ¬ K < (n : Int) := by omega
        have hI2 : (n : Int) ≤ K := by omega
        have hI3 : K - (n : Int) = (j : Int) := by omega
        have hwj : IntKind.i64.wrap (j : Int) = (j : Int) := by rw [IntKind.wrap_i64]; omega
        have hwK : IntKind.i64.wrap (K - (n : Int)) = (j : Int) := by rw [hI3, hwj]
        have hD1 : decide (K < (n : Int)) = false := decide_eq_false hI1
        have hD2 : decide ((n : Int) ≤ K) = true := decide_eq_true hI2
        have HMK : Hid (∀ P : Bel wr, Calls Tryz.prog 36 #[.int .i64 700000, .int .i64 (j : Int)] P.W fun e w'' => e = .returned vx ∧ ∃ q : Bel wr, w'' = q.W) := fun P => by
          rw [hvx]
          exact (markM 700000 j (by omega) (by omega) P.W (((unhide HP).below hb).below P.h)).mono (fun e w' ⟨h1, h2⟩ => ⟨h1, ⟨w', P.h.trans (h2.mono P.h.size)⟩, rfl⟩)
        have HSM : Hid (∀ P : Bel wr, Calls Tryz.prog 58 #[vx, vx] P.W fun e w'' => e = .returned (.bool true) ∧ ∃ q : Bel wr, w'' = q.W) := fun P => by
          rw [hvx]
          exact (eqkM _ P.W).mono (fun e w' ⟨h1, h2⟩ => ⟨h1, ⟨w', P.h.trans (h2.mono P.h.size)⟩, rfl⟩)
        clear r1 hvx hb hK hlt hk hkn hjk ej
        go_wp2_with fail
        refine wp_region_quiet_below (by kernel_rfl) (by kernel_rfl) ?_
        repeat (go_big_quiet_step (first | (go_at_call 58; refine unhide HSM _) | (go_at_call 36; refine unhide HMK _)))
        refine wpQuiet_nil ?_
        rintro _ ⟨P, rfl⟩
        clear x0
        go_wp2_with fail
        exact ⟨⟨k + 1, K + 1, by have := unhide HK; omega, by go_num, by have := unhide HK; omega, (unhide HB).trans (P.h.mono (unhide HB).size)⟩, by have := unhide HK; simp [intOf]; omega⟩
    · have hI : ¬ K < (n : Int) + 64 := by omega
      clear hb hK
      go_wp2_with fail
      go_ret
      exact ⟨rfl, unhide HB⟩
end Go.Proofs.YtcafhmlpmbkhkaaGreatDoor.Kg
/- An element of a list of one's own written over. -/
namespace Go.Proofs.YtcafhmlpmbkhkaaGreatDoor
open Go Go.Shelf Go.ChangeShapes Go.WideShapes Go.ChangeAt Go.RowKit Go.Maps
set_option linter.unusedVariables false
variable {α : Type} {K : Kd α}
theorem setCells_full (b : Nat) (t : TypeId) : ∀ (vs : List Value) (o : Nat) (w : World) (cur : Array Value), w.heap[b]? = some (.cells cur t (0, 0)) → ∃ cur', (w.setCells b o vs).heap[b]? = some (.cells cur' t (0, 0)) ∧ cur'.size = cur.size ∧ ∀ j, j < cur.size → cur'[j]? = if o ≤ j ∧ j < o + vs.length then vs[j - o]? else cur[j]?
  | [], o, w, cur, h => ⟨cur, h, rfl, fun j _ => by rw [if_neg (by simp)]⟩
  | v :: r, o, w, cur, h => by
    have h1 : (w.setCell ⟨b, o, none⟩ v).heap[b]? = some (.cells (cur.setIfInBounds o v) t (0, 0)) := by simp [World.setCell, Array.getElem?_modify, h]
    obtain ⟨cur', k1, k2, k3⟩ := setCells_full b t r (o + 1) _ _ h1
    refine ⟨cur', k1, by rw [k2]; simp, fun j hj => ?_⟩
    rw [k3 j (by simpa using hj)]
    by_cases e : j = o
    · subst e
      rw [if_neg (by omega), if_pos (by simp)]
      simp [hj]
    · have e2 : (cur.setIfInBounds o v)[j]? = cur[j]? := by rw [Array.getElem?_setIfInBounds]; rw [if_neg (fun h => e h.symm)]
      rw [e2]
      by_cases hc : o + 1 ≤ j ∧ j < o + 1 + r.length
      · rw [if_pos hc, if_pos (by simp; omega)]
        have : j - o = (j - (o + 1)) + 1 := by omega
        rw [this, List.getElem?_cons_succ]
      · rw [if_neg hc, if_neg (by simp; omega)]
theorem setCells_far (b : Nat) {k : Nat} (hk : k ≠ b) : ∀ (vs : List Value) (o : Nat) (w : World), (w.setCells b o vs).heap[k]? = w.heap[k]?
  | [], _, _ => rfl
  | v :: r, o, w => (setCells_far b hk r (o + 1) _).trans (Below.heap_setCell _ _ _ _ hk)
theorem setCells_size (b : Nat) : ∀ (vs : List Value) (o : Nat) (w : World), (w.setCells b o vs).heap.size = w.heap.size
  | [], _, _ => rfl
  | v :: r, o, w => (setCells_size b r (o + 1) _).trans (by simp)
theorem setCells_rest (b : Nat) : ∀ (vs : List Value) (o : Nat) (w : World), (w.setCells b o vs).os = w.os ∧ (w.setCells b o vs).tape = w.tape ∧ (w.setCells b o vs).output = w.output
  | [], _, _ => ⟨rfl, rfl, rfl⟩
  | v :: r, o, w => setCells_rest b r (o + 1) _
theorem grown_cells (w : World) (b o : Nat) (vs : List Value) : w.grownBy (w.setCells b o vs) (some b) :=
  ⟨(setCells_rest b vs o w).1, (setCells_rest b vs o w).2.1, (setCells_rest b vs o w).2.2, by rw [setCells_size]; exact Nat.le_refl _, fun i _ hne => setCells_far b (fun e => hne (by rw [e])) vs o w⟩
theorem own_set (hK : KdOK K) {W : World} {B g c n k : Nat} {L : List α} (h : W.ownsRow B K.e K.s (.slice (some ⟨g, 0, none⟩) n c) n (K.flat L)) (hn : L.length = n) (hk : k < n) (x : α) : (W.setCells g (k * K.s) (K.enc x)).ownsRow B K.e K.s (.slice (some ⟨g, 0, none⟩) n c) n (K.flat (L.set k x)) := by
  rcases h.2 with ⟨e, _⟩ | ⟨g', cap, cur, e, hB, hh, hc, hm, hcs, ht⟩
  · cases e
  · injection e with e _ e2
    injection e with e
    injection e with e _ _
    subst e e2
    obtain ⟨cur', k1, k2, k3⟩ := setCells_full g K.e (K.enc x) (k * K.s) W cur hh
    refine ⟨by rw [flat_len hK, List.length_set, hn], .inr ⟨g, c, cur', rfl, hB, k1, hc, hm, by rw [k2, hcs], ?_⟩⟩
    have hsz : n * K.s ≤ cur.size := by rw [hcs]; exact Nat.mul_le_mul_right _ hc
    apply List.ext_getElem?
    intro j
    by_cases hj : j < n * K.s
    · have hq : j / K.s < n := Nat.div_lt_of_lt_mul (by rw [Nat.mul_comm]; exact hj)
      have hr : j % K.s < K.s := Nat.mod_lt _ hK.pos
      have ej : j / K.s * K.s + j % K.s = j := Nat.div_add_mod' j K.s
      obtain ⟨q, eq⟩ : ∃ q, q = j / K.s := ⟨_, rfl⟩
      obtain ⟨r, er⟩ : ∃ r, r = j % K.s := ⟨_, rfl⟩
      rw [← eq] at hq ej
      rw [← er] at hr ej
      have hqL : q < (L.set k x).length := by rw [List.length_set, hn]; exact hq
      have f1 := flat_get hK (L.set k x) q hqL r hr
      rw [ej] at f1
      rw [List.getElem?_take_of_lt hj, f1]
      have f2 : cur'.toList[j]? = cur'[j]? := by simp
      rw [f2, k3 j (by omega), hK.len]
      by_cases e : q = k
      · subst e
        rw [if_pos (by omega), List.getElem_set_self]
        congr 1
        omega
      · rw [List.getElem_set_ne (fun h => e h.symm)]
        have hno : ¬ (k * K.s ≤ j ∧ j < k * K.s + K.s) := by
          rcases Nat.lt_or_ge q k with h1 | h1
          · have := Nat.mul_le_mul_right K.s (show q + 1 ≤ k from h1)
            rw [Nat.add_mul, Nat.one_mul] at this
            omega
          · have := Nat.mul_le_mul_right K.s (show k + 1 ≤ q by omega)
            rw [Nat.add_mul, Nat.one_mul] at this
            omega
        rw [if_neg hno]
        have f3 := flat_get hK L q (by omega) r hr
        rw [ej, ← ht, List.getElem?_take_of_lt hj] at f3
        rw [← f3]
        simp
    · rw [List.getElem?_eq_none (by simp; omega), List.getElem?_eq_none (by rw [flat_len hK, List.length_set, hn]; omega)]

theorem below_cells {B : Nat} {a W : World} (h : Below B a W) {g : Nat} (hg : B ≤ g) (o : Nat) (vs : List Value) : Below B a (W.setCells g o vs) := by
  refine ⟨(setCells_rest g vs o W).1.trans h.os, (setCells_rest g vs o W).2.1.trans h.tape, (setCells_rest g vs o W).2.2.trans h.output, by rw [setCells_size]; exact h.size, fun k hk => ?_⟩
  exact (setCells_far g (by omega) vs o W).trans (h.block k hk)
theorem own_there {W : World} {B e s n g c : Nat} {xs : List Value} (h : W.ownsRow B e s (.slice (some ⟨g, 0, none⟩) n c) n xs) {o m : Nat} (hm : o + m ≤ n * s) : W.there g o m := by
  intro j hj
  rw [h.frozenAt, h.cellAt (o + j) (by omega)]
  have hl : o + j < xs.length := by rw [h.1]; omega
  rw [List.getElem?_eq_getElem hl]
  exact ⟨rfl, rfl⟩
theorem Lies.take {W : World} {p : Option Addr} {A B : List α} (h : Lies K W p (A ++ B)) : Lies K W p A := by
  refine ⟨fun hp => ?_, fun k hk => ?_⟩
  · have := h.1 hp
    exact (List.append_eq_nil_iff.1 this).1
  · obtain ⟨b, o, e, hb, hr⟩ := h.2 k (by rw [List.length_append]; omega)
    refine ⟨b, o, e, hb, ?_⟩
    rwa [List.getElem_append_left hk] at hr
end Go.Proofs.YtcafhmlpmbkhkaaGreatDoor
/- SheetTrials: like 12, first 14. -/
namespace Go.Proofs.YtcafhmlpmbkhkaaGreatDoor
open Go Go.Shelf Go.ChangeShapes Go.WideShapes Go.ChangeAt Go.RowKit Go.Maps
set_option linter.unusedVariables false
set_option linter.unusedSimpArgs false
set_option maxHeartbeats 1000000 in
theorem num_any (e : Int) (w : World) : Calls Tryz.prog 57 #[.int .i64 e] w fun x w' => x = .returned (.int .i64 e) ∧ w' = w := by
  go_enter Tryz.func57, Tryz.ntmps57
  go_wp2
  go_ret
  exact ⟨rfl, rfl⟩
set_option maxHeartbeats 2000000 in
theorem like_yes (s : ByteArray) (e : Int) (w : World) : Calls Tryz.prog 12 #[.string s, .int .i64 e, .string s, .int .i64 e] w fun x w' => x = .returned (.bool true) ∧ w' = w := by
  go_enter Tryz.func12, Tryz.ntmps12
  go_wp2
  go_ret
  exact ⟨rfl, rfl⟩
def firX : List Cm := [⟨⟨#[65]⟩, 5, 0⟩, ⟨⟨#[66, 58, 67]⟩, 0, 12⟩]
def firT : Tx := [65, 99, 99, 111, 117, 110, 116, 32, 32, 68, 101, 98, 105, 116, 32, 32, 67, 114, 101, 100, 105, 116, 10, 65, 32, 32, 32, 32, 32, 32, 32, 32, 32, 32, 48, 46, 53, 10, 66, 58, 67, 32, 32, 32, 32, 32, 32, 32, 32, 32, 32, 32, 32, 32, 32, 32, 32, 49, 46, 50, 10, 83, 117, 109, 32, 32, 32, 32, 32, 32, 32, 32, 48, 46, 53, 32, 32, 32, 32, 32, 49, 46, 50, 10]
theorem fir_is : ansT 1 firX = (firT, 0) := by decide +kernel
set_option maxRecDepth 100000 in
set_option maxHeartbeats 4000000 in
theorem first_any (w : World) (hP : Kg.Pw w) : Calls Tryz.prog 14 #[] w fun e w' => e = .returned (.bool true) ∧ Below w.heap.size w w' := by
  obtain ⟨w1, hw1⟩ : ∃ W, W = w.alloc (.cells #[.string ⟨#[65]⟩, .int .i64 5, .int .i64 0, .string ⟨#[66, 58, 67]⟩, .int .i64 0, .int .i64 12] 31) := ⟨_, rfl⟩
  have b1 : Below w.heap.size w w1 := by rw [hw1]; exact bal (Below.refl _ _) _
  have hh : w1.heap[w.heap.size]? = some (.cells #[.string ⟨#[65]⟩, .int .i64 5, .int .i64 0, .string ⟨#[66, 58, 67]⟩, .int .i64 0, .int .i64 12] 31) := by rw [hw1]; exact heap_new _ _
  have hL : Lies kM w1 (some ⟨w.heap.size, 0, none⟩) firX := by
    refine ⟨(fun e => by cases e), fun k hk => ⟨w.heap.size, 0, rfl, (Array.getElem?_eq_some_iff.1 hh).1, fun j u hu => ?_⟩⟩
    have hk2 : k = 0 ∨ k = 1 := by simp [firX] at hk; omega
    have hj := (List.getElem?_eq_some_iff.1 hu).1
    rw [cell_at hh]
    rcases hk2 with rfl | rfl
    · have hj3 : j = 0 ∨ j = 1 ∨ j = 2 := by simp [kM, Cm.vals] at hj; omega
      rcases hj3 with rfl | rfl | rfl <;> simpa [kM, Cm.vals, firX] using hu
    · have hj3 : j = 0 ∨ j = 1 ∨ j = 2 := by simp [kM, Cm.vals] at hj; omega
      rcases hj3 with rfl | rfl | rfl <;> simpa [kM, Cm.vals, firX] using hu
  have D : Hid (Calls Tryz.prog 10 #[.slice (some ⟨w.heap.size, 0, none⟩) 2 2, .int .i64 1] w1 fun e w' => e = .returned (.tuple #[.string (txB firT), .int .i64 0]) ∧ Below w1.heap.size w1 w') := by
    have h := trial_any (hP.below b1) (c := 2) (X := firX) (n := 2) rfl hL (fun x hx => by
      simp only [firX, List.mem_cons, List.not_mem_nil, or_false] at hx
      rcases hx with rfl | rfl
      · exact ⟨by decide, by decide, by decide⟩
      · exact ⟨by decide, by decide, by decide⟩) (by decide) 1 (by decide)
    unfold TriOut at h
    rw [fir_is] at h
    exact h
  have hw1' := hw1.symm
  have HB := hide b1
  have HTE : Hid ((txB firT).toList = firT) := by show _ = _; rw [Lib.toList_data]; rfl
  obtain ⟨TX, hTX⟩ : ∃ T, T = txB firT := ⟨_, rfl⟩
  rw [← hTX] at D HTE
  have hcmp := unhide HTE
  clear hP hh hL b1 hw1 hTX
  go_enter Tryz.func14, Tryz.ntmps14
  go_wp2_with fail
  refine (unhide D).mono ?_
  rintro e w2 ⟨rfl, hb2⟩
  have HB2 : Hid (Below w.heap.size w w2) := (unhide HB).trans (hb2.mono (unhide HB).size)
  clear hw1' hb2 D
  unfold firT at hcmp
  go_wp2_with (go_at_call 57; refine (num_any _ _).mono ?_; rintro e w3 ⟨rfl, hw3⟩; rw [hw3]; clear hw3 w3)
  go_ret
  exact ⟨rfl, unhide HB2⟩
end Go.Proofs.YtcafhmlpmbkhkaaGreatDoor
