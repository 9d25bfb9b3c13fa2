import Derived.Test.YtcafhmlpmbkhkaaGreatDoorR17
import Derived.Test.YtcafhmlpmbkhkaaGreatDoorR01
import Derived.Laws.StructEq
import Derived.Test.YtcafhmlpmbkhkaaGreatDoorR16
namespace Go.Proofs.YtcafhmlpmbkhkaaGreatDoor.Kg
open Go Go.Shelf Go.ChangeShapes Go.WideShapes Go.ChangeAt Go.RowKit Go.Maps
set_option linter.unusedVariables false
set_option linter.unusedSimpArgs false
def mkV (id k : Nat) : Bv := ⟨mkS id k, -(k : Int) - 1, 0⟩
def mklV (id n : Nat) : List Bv := (List.range n).map (mkV id)
theorem mklV_len (id n : Nat) : (mklV id n).length = n := by simp [mklV]
theorem mklV_get (id n k : Nat) (h : k < (mklV id n).length) : (mklV id n)[k] = mkV id k := by simp [mklV]
theorem mklV_succ (id n : Nat) : mklV id (n + 1) = mklV id n ++ [mkV id n] := by simp [mklV, List.range_succ]
theorem retV {tmps : Array Value} {w : World} {b : Nat} {x : Bv} (hp : tmps[4]?.getD undef = .pointer (some ⟨b, 0, none⟩)) (h : w.heap[b]? = some (.cells #[.string x.acc, .int .i64 x.own, .int .i64 x.rol] 72 (0, 0))) :
    (results Tryz.f116 tmps).run Tryz.prog w = .ok (cvV x) w := by
  have q0 : w.cell? ⟨b, 0, none⟩ = some (.string x.acc) := by rw [cell_at h]; rfl
  have q1 : w.cell? ⟨b, 1, none⟩ = some (.int .i64 x.own) := by rw [cell_at h]; rfl
  have q2 : w.cell? ⟨b, 2, none⟩ = some (.int .i64 x.rol) := by rw [cell_at h]; rfl
  simp [results, hp, asAddr, go_sem, q0, q1, q2, cvV]
set_option maxRecDepth 100000 in
set_option maxHeartbeats 2000000 in
theorem markV (id k : Nat) (hid : id < 1000000) (hk : k < 1000000) (w : World) (h : Pw w) : Calls Tryz.prog 116 #[.int .i64 (id : Int), .int .i64 (k : Int)] w fun e w' => e = .returned (cvV (mkV id k)) ∧ Below w.heap.size w w' := by
  obtain ⟨w1, hw1⟩ : ∃ w1, w1 = w.alloc (.cells #[.string ⟨#[]⟩, .int .i64 0, .int .i64 0] 72) := ⟨_, rfl⟩
  have b1 : Below w.heap.size w w1 := by rw [hw1]; exact bal (Below.refl _ _) _
  have z1 : w1.heap.size = w.heap.size + 1 := by rw [hw1]; simp
  have d := hide (text_any id k hid hk w1 (h.below b1))
  have hR1 : w1.heap[w.heap.size]? = some (.cells #[.string ⟨#[]⟩, .int .i64 0, .int .i64 0] 72 (0, 0)) := by rw [hw1]; exact heap_new _ _
  have HR := hide hR1
  have H1 := hide hw1
  have B1 := hide b1
  have s0 : -9223372036854775808 ≤ -(k : Int) := by omega
  have s1 : -(k : Int) ≤ 9223372036854775807 := by omega
  have s2 : -9223372036854775808 ≤ -(k : Int) - 1 := by omega
  have s3 : -(k : Int) - 1 ≤ 9223372036854775807 := by omega
  clear h hw1 b1 hR1
  go_enter Tryz.func116, Tryz.ntmps116
  go_wp2_with fail
  rw [← unhide H1]
  refine (unhide d).mono ?_
  rintro e w2 ⟨rfl, hg⟩
  have hb2 := hg.below
  have hR2 := (hb2.block w.heap.size (by omega)).trans (unhide HR)
  have q0 : w2.cell? ⟨w.heap.size, 0, none⟩ = some (.string ⟨#[]⟩) := by rw [cell_at hR2]; rfl
  have f0 : w2.frozen? ⟨w.heap.size, 0, none⟩ = false := froz_at hR2
  have q1 : w2.cell? ⟨w.heap.size, 1, none⟩ = some (.int .i64 0) := by rw [cell_at hR2]; rfl
  have f1 : w2.frozen? ⟨w.heap.size, 1, none⟩ = false := froz_at hR2
  have q2 : w2.cell? ⟨w.heap.size, 2, none⟩ = some (.int .i64 0) := by rw [cell_at hR2]; rfl
  have f2 : w2.frozen? ⟨w.heap.size, 2, none⟩ = false := froz_at hR2
  have HR2 := hide hR2
  have B2 : Hid (Below w.heap.size w w2) := (unhide B1).trans (hb2.mono (unhide B1).size)
  clear hg hb2 hR2
  go_wp2_with fail
  refine bodyPost_ret (retV (b := w.heap.size) (x := mkV id k) (by rfl) ?_) rfl ⟨rfl, ?_⟩
  · rw [Go.heap_setCell_same _ _ _ _ _ _ (Go.heap_setCell_same _ _ _ _ _ _ (Go.heap_setCell_same _ _ _ _ _ _ (unhide HR2)))]
    rfl
  · exact ((((unhide B2).setCell (p := ⟨w.heap.size, 0, none⟩) (Nat.le_refl _) _).setCell (p := ⟨w.heap.size, 1, none⟩) (Nat.le_refl _) _).setCell (p := ⟨w.heap.size, 2, none⟩) (Nat.le_refl _) _)
set_option maxRecDepth 100000 in
set_option maxHeartbeats 2000000 in
theorem eqkV (x : Bv) (w : World) : Calls Tryz.prog 132 #[cvV x, cvV x] w fun e w' => e = .returned (.bool true) ∧ Below w.heap.size w w' := by
  have sd : Tryz.prog.underlying 72 = some (.struct (Tryz.prog.fieldsOf 72)) := by kernel_rfl
  have sh : Tryz.prog.stoodInHeld 72 = false := by kernel_rfl
  have eg : Tryz.prog.eqGuardType Tryz.prog.depth 72 = false := by kernel_rfl
  have heq : ∀ w, (Op.equalIn 10000 72 (.agg #[.string x.acc, .int .i64 x.own, .int .i64 x.rol]) (.agg #[.string x.acc, .int .i64 x.own, .int .i64 x.rol])).run Tryz.prog w = .ok true w := fun w => by
    rw [run_equalIn_agg w 9999 72 _ _ sd sh]
    have fl : (Tryz.prog.fieldsOf 72).toList.map (fun f => (f.type, f.offset, f.name == "_")) = [(9, 0, false), (2, 1, false), (2, 2, false)] := by kernel_rfl
    obtain ⟨f0, f1, f2, hf⟩ : ∃ f0 f1 f2, (Tryz.prog.fieldsOf 72).toList = [f0, f1, f2] := by
      have h := congrArg List.length fl
      rw [List.length_map] at h
      match hq : (Tryz.prog.fieldsOf 72).toList, h with
      | [f0, f1, f2], _ => exact ⟨f0, f1, f2, rfl⟩
    have h := fl
    rw [hf] at h ⊢
    simp at h
    simp [Op.eqFields, go_sem, h, Tryz.underlying9, Tryz.underlying2, Tryz.underlying3, Tryz.underlying4]
  unfold cvV
  go_enter Tryz.func132, Tryz.ntmps132
  go_wp2_with fail
  go_ret
  exact ⟨rfl, bal (bal (Below.refl _ _) _) _⟩
def RoomOutV (X : List Bv) (n : Nat) (w : World) (e : Ending) (w' : World) : Prop :=
  ∃ g c, e = .returned (.slice (some ⟨g, 0, none⟩) (n + 64) c) ∧ w'.ownsRow w.heap.size 72 3 (.slice (some ⟨g, 0, none⟩) (n + 64) c) (n + 64) (kV.flat (X ++ mklV 700000 64)) ∧ Below w.heap.size w w'
structure RoomAtV (X : List Bv) (n : Nat) (w : World) (j : Nat) (v : Value) (wr : World) : Prop where
  own : wr.ownsRow w.heap.size 72 3 v (n + j) (kV.flat (X ++ mklV 700000 j))
  bel : Below w.heap.size w wr
theorem own_lit0V (w : World) : (w.alloc (.cells #[] 72)).ownsRow w.heap.size 72 3 (.slice (some ⟨w.heap.size, 0, none⟩) 0 0) 0 (kV.flat []) := by
  refine ⟨by simp [Kd.flat], .inr ⟨w.heap.size, 0, #[], rfl, Nat.le_refl _, ?_, Nat.le_refl _, Nat.zero_le _, by simp, by simp [Kd.flat]⟩⟩
  exact heap_new w _
set_option maxRecDepth 100000 in
set_option maxHeartbeats 4000000 in
theorem roomV (X : List Bv) (pp : Option Addr) (n cc : Nat) (hX : X.length = n) (hcc : pp = none → cc = 0) (hn : n ≤ 1048576) (w : World) (hP : Pw w) (hL : Lies kV w pp X) :
    Calls Tryz.prog 32 #[.slice pp n cc] w fun e w' => RoomOutV X n w e w' := by
  have b0 : Below w.heap.size w (w.alloc (.cells #[] 72)) := bal (Below.refl _ w) _
  obtain ⟨p5, c5, w5, r5, o5, b5, _⟩ := run_app (K := kV) kV_ok (L := []) (M := X) 67 (own_lit0V w) b0.size pp cc hcc (hL.below b0) (by rw [hX]; omega)
  rw [hX, Nat.zero_add] at r5 o5
  rw [List.nil_append] at o5
  have HS : Hid (RoomAtV X n w 0 (.slice p5 n c5) w5) := ⟨by rw [show mklV 700000 0 = [] from rfl, List.append_nil]; exact o5, b0.trans (b5.mono (Nat.le_refl _))⟩
  have HR5 := hide r5; have HPW := hide hP
  clear r5 o5 b5 b0 hP hL hcc hX
  go_enter Tryz.func32, Tryz.ntmps32
  go_wp2_with (at_builtin; refine wpList_append_run rfl _ _ 67 rfl _ _ _ _ rfl rfl (unhide HR5) ?_)
  go_loopw [3, 4] (fun v i wr => ∃ j : Nat, j ≤ 64 ∧ i = .int .i64 (j : Int) ∧ (∃ p' c', v = .slice p' (n + j) c') ∧ Hid (RoomAtV X n w j v wr)) (fun _ i _ => 64 - (intOf i).toNat)
  case atStart => exact ⟨0, by omega, rfl, ⟨_, _, rfl⟩, unhide HS⟩
  case round =>
    obtain ⟨j, hj, rfl, ⟨p7, c7, rfl⟩, HA⟩ := hrel
    have hA := unhide HA
    by_cases hlt : j < 64
    · have hI : (j : Int) < 64 := by omega
      have hmk := hide (markV 700000 j (by omega) (by omega) wr ((unhide HPW).below hA.bel))
      obtain ⟨O, hO⟩ : ∃ O, O = Obj.cells #[.string (mkS 700000 j), .int .i64 (-(j : Int) - 1), .int .i64 0] 72 := ⟨_, rfl⟩
      have HSTEP : Hid (∀ w2, Below wr.heap.size wr w2 → ∃ p' c' w', (Builtin.append_ #[67, 67] 67 #[.slice p7 (n + j) c7, .slice (some ⟨w2.heap.size, 0, none⟩) 1 1]).run Tryz.prog (w2.alloc O) = .ok (.slice p' (n + j + 1) c') w' ∧ RoomAtV X n w (j + 1) (.slice p' (n + j + 1) c') w') := fun w2 hb => by
        have hba := bal hb O
        obtain ⟨p', c', w', r, o, b, _⟩ := run_app (K := kV) kV_ok (M := [mkV 700000 j]) 67 (W := w2.alloc O) (row_keep hA.own fun q hq => hba.block q (hA.own.lt q hq).2) (Nat.le_trans hA.bel.size hba.size) (some ⟨w2.heap.size, 0, none⟩) 1 (fun h => by cases h) (by rw [hO]; exact one_lies w2 (mkV 700000 j) 72 _ rfl) (by rw [List.length_singleton]; omega)
        simp only [List.length_singleton] at r o
        refine ⟨p', c', w', r, ⟨?_, (hA.bel.trans (hba.mono hA.bel.size)).trans b⟩⟩
        rw [mklV_succ, ← List.append_assoc]
        exact o
      clear hA
      unfold cvV at hmk
      simp only [mkV] at hmk
      subst hO
      go_wp2_with fail
      refine (unhide hmk).mono ?_
      rintro e w2 ⟨rfl, hb⟩
      obtain ⟨p', c', w', r, hrel⟩ := unhide HSTEP w2 hb
      have HREL := hide hrel
      clear hb hrel HSTEP
      go_wp2_with (at_builtin; refine wpList_append_run rfl _ _ 67 rfl _ _ _ _ rfl rfl r ?_)
      exact ⟨⟨j + 1, by omega, by go_num, ⟨_, _, rfl⟩, unhide HREL⟩, by simp [intOf]; omega⟩
    · have hj64 : j = 64 := by omega
      subst hj64
      have HF : Hid (∀ e, e = Ending.returned (.slice p7 (n + 64) c7) → RoomOutV X n w e wr) := fun e he => by
        obtain ⟨g, c, hv⟩ := own_open hA.own (by omega)
        injection hv with h1 _ h2
        subst h1 h2
        exact ⟨g, c7, he, hA.own, hA.bel⟩
      clear hA
      go_wp2_with fail
      go_ret
      exact unhide HF _ rfl
attribute [local go_sem ↓] ldV_is
theorem ldBV {w : World} {p : Option Addr} {L : List Bv} (h : Lies kV w p L) {k : Nat} (hk : k < L.length) : ∃ b o, p = some ⟨b, o, none⟩ ∧ ∀ W, Below w.heap.size w W → (ldV (.pointer (some ⟨b, o + k * 3, none⟩))).run Tryz.prog W = .ok (cvV L[k]) W := by
  obtain ⟨b, o, e, hb, hr⟩ := h.2 k hk
  exact ⟨b, o, e, fun W hW => run_ldV (fun j u hu => keep1 hW hb (hr j u hu))⟩
set_option maxRecDepth 100000 in
set_option maxHeartbeats 8000000 in
theorem keptV (X : List Bv) (pp pg : Option Addr) (n cc c : Nat) (hX : X.length = n) (hn : n ≤ 4611686018427387904) (w : World) (hP : Pw w) (hL : Lies kV w pp X) (hG : Lies kV w pg (X ++ mklV 700000 64)) :
    Calls Tryz.prog 35 #[.slice pg (n + 64) c, .slice pp n cc] w fun e w' => e = .returned (.bool true) ∧ Below w.heap.size w w' := by
  have HP := hide hP; have HL := hide hL; have HG := hide hG; have HX := hide hX
  clear hP hL hG hX
  go_enter Tryz.func35, Tryz.ntmps35
  go_wp2_with fail
  go_loopw [5] (fun i wr => ∃ (k : Nat) (K : Int), k ≤ n + 64 ∧ i = .int .i64 K ∧ K = (k : Int) ∧ Hid (Below w.heap.size w wr)) (fun i _ => ((n : Int) + 64 - intOf i).toNat)
  case atStart => exact ⟨0, 0, by omega, rfl, rfl, Below.refl _ _⟩
  case round =>
    obtain ⟨k, K, hk, rfl, hK, HB⟩ := hrel
    have hb := unhide HB
    have HK := hide hK
    have hK0 : 0 ≤ K := by omega
    have hKt : K.toNat = k := by omega
    by_cases hlt : k < n + 64
    · have hI : K < (n : Int) + 64 := by omega
      obtain ⟨b1, o1, e1, r1⟩ := ldBV ((unhide HG).below hb) (k := k) (by rw [List.length_append, unhide HX, mklV_len]; exact hlt)
      subst e1
      by_cases hkn : k < n
      · obtain ⟨b2, o2, e2, r2⟩ := ldBV ((unhide HL).below hb) (k := k) (by rw [unhide HX]; exact hkn)
        subst e2
        rw [List.getElem_append_left (by rw [unhide HX]; exact hkn)] at r1
        obtain ⟨vx, hvx⟩ : ∃ vx, vx = cvV (X[k]'(by rw [unhide HX]; exact hkn)) := ⟨_, rfl⟩
        rw [← hvx] at r1 r2
        have x0 : ∀ P : Bel wr, (ldV (.pointer (some ⟨b1, o1 + k * 3, none⟩))).run Tryz.prog P.W = .ok vx P.W := fun P => r1 P.W P.h
        have y0 : ∀ P : Bel wr, (ldV (.pointer (some ⟨b2, o2 + k * 3, none⟩))).run Tryz.prog P.W = .ok vx P.W := fun P => r2 P.W P.h
        have HSM : Hid (∀ P : Bel wr, Calls Tryz.prog 132 #[vx, vx] P.W fun e w'' => e = .returned (.bool true) ∧ ∃ q : Bel wr, w'' = q.W) := fun P => by
          rw [hvx]
          exact (eqkV _ P.W).mono (fun e w' ⟨h1, h2⟩ => ⟨h1, ⟨w', P.h.trans (h2.mono P.h.size)⟩, rfl⟩)
        subst hK
        have hI1 : (k : Int) < (n : Int) := by omega
        have hI2 : ¬ (n : Int) ≤ (k : Int) := by omega
        have hN2 : ¬ n ≤ k := by omega
        have hD2 : decide (n ≤ k) = false := decide_eq_false hN2
        clear r1 r2 hvx hb hk HK hKt
        go_wp2_with fail
        refine wp_region_quiet_below (by kernel_rfl) (by kernel_rfl) ?_
        repeat (go_big_quiet_step (first | (go_at_call 132; refine unhide HSM _)))
        refine wpQuiet_nil ?_
        rintro _ ⟨P, rfl⟩
        clear x0 y0
        go_wp2_with fail
        exact ⟨⟨k + 1, (k : Int) + 1, by omega, by go_num, by omega, (unhide HB).trans (P.h.mono (unhide HB).size)⟩, by simp [intOf]; omega⟩
      · obtain ⟨j, hjk⟩ : ∃ j, k = n + j := ⟨k - n, by omega⟩
        have ej : ∀ h, (X ++ mklV 700000 64)[k]'h = mkV 700000 j := fun h => by
          have e9 : (X ++ mklV 700000 64)[k]? = some (mkV 700000 j) := by
            rw [List.getElem?_append_right (by rw [unhide HX]; omega), unhide HX, show k - n = j by omega, List.getElem?_eq_getElem (by rw [mklV_len]; omega), mklV_get]
          rw [List.getElem?_eq_getElem h] at e9
          exact Option.some.inj e9
        rw [ej] at r1
        obtain ⟨vx, hvx⟩ : ∃ vx, vx = cvV (mkV 700000 j) := ⟨_, rfl⟩
        rw [← hvx] at r1
        have x0 : ∀ P : Bel wr, (ldV (.pointer (some ⟨b1, o1 + k * 3, none⟩))).run Tryz.prog P.W = .ok vx P.W := fun P => r1 P.W P.h
        have hI1 : ¬ K < (n : Int) := by omega
        have hI2 : (n : Int) ≤ K := by omega
        have hI3 : K - (n : Int) = (j : Int) := by omega
        have hwj : IntKind.i64.wrap (j : Int) = (j : Int) := by rw [IntKind.wrap_i64]; omega
        have hwK : IntKind.i64.wrap (K - (n : Int)) = (j : Int) := by rw [hI3, hwj]
        have hD1 : decide (K < (n : Int)) = false := decide_eq_false hI1
        have hD2 : decide ((n : Int) ≤ K) = true := decide_eq_true hI2
        have HMK : Hid (∀ P : Bel wr, Calls Tryz.prog 116 #[.int .i64 700000, .int .i64 (j : Int)] P.W fun e w'' => e = .returned vx ∧ ∃ q : Bel wr, w'' = q.W) := fun P => by
          rw [hvx]
          exact (markV 700000 j (by omega) (by omega) P.W (((unhide HP).below hb).below P.h)).mono (fun e w' ⟨h1, h2⟩ => ⟨h1, ⟨w', P.h.trans (h2.mono P.h.size)⟩, rfl⟩)
        have HSM : Hid (∀ P : Bel wr, Calls Tryz.prog 132 #[vx, vx] P.W fun e w'' => e = .returned (.bool true) ∧ ∃ q : Bel wr, w'' = q.W) := fun P => by
          rw [hvx]
          exact (eqkV _ P.W).mono (fun e w' ⟨h1, h2⟩ => ⟨h1, ⟨w', P.h.trans (h2.mono P.h.size)⟩, rfl⟩)
        clear r1 hvx hb hK hlt hk hkn hjk ej
        go_wp2_with fail
        refine wp_region_quiet_below (by kernel_rfl) (by kernel_rfl) ?_
        repeat (go_big_quiet_step (first | (go_at_call 132; refine unhide HSM _) | (go_at_call 116; refine unhide HMK _)))
        refine wpQuiet_nil ?_
        rintro _ ⟨P, rfl⟩
        clear x0
        go_wp2_with fail
        exact ⟨⟨k + 1, K + 1, by have := unhide HK; omega, by go_num, by have := unhide HK; omega, (unhide HB).trans (P.h.mono (unhide HB).size)⟩, by have := unhide HK; simp [intOf]; omega⟩
    · have hI : ¬ K < (n : Int) + 64 := by omega
      clear hb hK
      go_wp2_with fail
      go_ret
      exact ⟨rfl, unhide HB⟩
end Go.Proofs.YtcafhmlpmbkhkaaGreatDoor.Kg
namespace Go.Proofs.YtcafhmlpmbkhkaaGreatDoor.Kg
open Go Go.Shelf Go.ChangeShapes Go.WideShapes Go.ChangeAt Go.RowKit Go.Maps
set_option linter.unusedVariables false
set_option linter.unusedSimpArgs false
open Go.Proofs.YtcafhmlpmbkhkaaGreatDoor.Ch (kA kA_ok)
theorem run_ldA {w : World} {b o : Nat} {x : Ch.Ac} (h : w.rangeAt b o (kA.enc x)) : (ldA (.pointer (some ⟨b, o, none⟩))).run Tryz.prog w = .ok (cvA x) w := run_loadAt_mid (P := Tryz.prog) w b o 139 (kA.enc x) _ h Tryz.underlying139 rfl sizA
def mkA (id k : Nat) : Ch.Ac := ⟨(mkS id k).data.toList, -(k : Int) - 1, 0, false⟩
def mklA (id n : Nat) : List Ch.Ac := (List.range n).map (mkA id)
theorem mklA_len (id n : Nat) : (mklA id n).length = n := by simp [mklA]
theorem mklA_get (id n k : Nat) (h : k < (mklA id n).length) : (mklA id n)[k] = mkA id k := by simp [mklA]
theorem mklA_succ (id n : Nat) : mklA id (n + 1) = mklA id n ++ [mkA id n] := by simp [mklA, List.range_succ]
theorem retA {tmps : Array Value} {w : World} {b : Nat} {x : Ch.Ac} (hp : tmps[4]?.getD undef = .pointer (some ⟨b, 0, none⟩)) (h : w.heap[b]? = some (.cells #[.string (Ch.txN x.nm), .int .i64 x.ty, .int .i64 x.dy, .bool x.cl] 139 (0, 0))) :
    (results Tryz.f101 tmps).run Tryz.prog w = .ok (cvA x) w := by
  have q0 : w.cell? ⟨b, 0, none⟩ = some (.string (Ch.txN x.nm)) := by rw [cell_at h]; rfl
  have q1 : w.cell? ⟨b, 1, none⟩ = some (.int .i64 x.ty) := by rw [cell_at h]; rfl
  have q2 : w.cell? ⟨b, 2, none⟩ = some (.int .i64 x.dy) := by rw [cell_at h]; rfl
  have q3 : w.cell? ⟨b, 3, none⟩ = some (.bool x.cl) := by rw [cell_at h]; rfl
  simp [results, hp, asAddr, go_sem, q0, q1, q2, q3, cvA]
set_option maxRecDepth 100000 in
set_option maxHeartbeats 2000000 in
theorem markA (id k : Nat) (hid : id < 1000000) (hk : k < 1000000) (w : World) (h : Pw w) : Calls Tryz.prog 101 #[.int .i64 (id : Int), .int .i64 (k : Int)] w fun e w' => e = .returned (cvA (mkA id k)) ∧ Below w.heap.size w w' := by
  obtain ⟨w1, hw1⟩ : ∃ w1, w1 = w.alloc (.cells #[.string ⟨#[]⟩, .int .i64 0, .int .i64 0, .bool false] 139) := ⟨_, rfl⟩
  have b1 : Below w.heap.size w w1 := by rw [hw1]; exact bal (Below.refl _ _) _
  have z1 : w1.heap.size = w.heap.size + 1 := by rw [hw1]; simp
  have d := hide (text_any id k hid hk w1 (h.below b1))
  have hR1 : w1.heap[w.heap.size]? = some (.cells #[.string ⟨#[]⟩, .int .i64 0, .int .i64 0, .bool false] 139 (0, 0)) := by rw [hw1]; exact heap_new _ _
  have HR := hide hR1
  have H1 := hide hw1
  have B1 := hide b1
  have s0 : -9223372036854775808 ≤ -(k : Int) := by omega
  have s1 : -(k : Int) ≤ 9223372036854775807 := by omega
  have s2 : -9223372036854775808 ≤ -(k : Int) - 1 := by omega
  have s3 : -(k : Int) - 1 ≤ 9223372036854775807 := by omega
  clear h hw1 b1 hR1
  go_enter Tryz.func101, Tryz.ntmps101
  go_wp2_with fail
  rw [← unhide H1]
  refine (unhide d).mono ?_
  rintro e w2 ⟨rfl, hg⟩
  have hb2 := hg.below
  have hR2 := (hb2.block w.heap.size (by omega)).trans (unhide HR)
  have q0 : w2.cell? ⟨w.heap.size, 0, none⟩ = some (.string ⟨#[]⟩) := by rw [cell_at hR2]; rfl
  have f0 : w2.frozen? ⟨w.heap.size, 0, none⟩ = false := froz_at hR2
  have q1 : w2.cell? ⟨w.heap.size, 1, none⟩ = some (.int .i64 0) := by rw [cell_at hR2]; rfl
  have f1 : w2.frozen? ⟨w.heap.size, 1, none⟩ = false := froz_at hR2
  have q2 : w2.cell? ⟨w.heap.size, 2, none⟩ = some (.int .i64 0) := by rw [cell_at hR2]; rfl
  have f2 : w2.frozen? ⟨w.heap.size, 2, none⟩ = false := froz_at hR2
  have q3 : w2.cell? ⟨w.heap.size, 3, none⟩ = some (.bool false) := by rw [cell_at hR2]; rfl
  have f3 : w2.frozen? ⟨w.heap.size, 3, none⟩ = false := froz_at hR2
  have HR2 := hide hR2
  have B2 : Hid (Below w.heap.size w w2) := (unhide B1).trans (hb2.mono (unhide B1).size)
  clear hg hb2 hR2
  go_wp2_with fail
  refine bodyPost_ret (retA (b := w.heap.size) (x := mkA id k) (by rfl) ?_) rfl ⟨rfl, ?_⟩
  · rw [Go.heap_setCell_same _ _ _ _ _ _ (Go.heap_setCell_same _ _ _ _ _ _ (Go.heap_setCell_same _ _ _ _ _ _ (Go.heap_setCell_same _ _ _ _ _ _ (unhide HR2))))]
    rfl
  · exact (((((unhide B2).setCell (p := ⟨w.heap.size, 0, none⟩) (Nat.le_refl _) _).setCell (p := ⟨w.heap.size, 1, none⟩) (Nat.le_refl _) _).setCell (p := ⟨w.heap.size, 2, none⟩) (Nat.le_refl _) _).setCell (p := ⟨w.heap.size, 3, none⟩) (Nat.le_refl _) _)
set_option maxRecDepth 100000 in
set_option maxHeartbeats 2000000 in
theorem eqkA (x : Ch.Ac) (w : World) : Calls Tryz.prog 113 #[cvA x, cvA x] w fun e w' => e = .returned (.bool true) ∧ Below w.heap.size w w' := by
  have sd : Tryz.prog.underlying 139 = some (.struct (Tryz.prog.fieldsOf 139)) := by kernel_rfl
  have sh : Tryz.prog.stoodInHeld 139 = false := by kernel_rfl
  have eg : Tryz.prog.eqGuardType Tryz.prog.depth 139 = false := by kernel_rfl
  have heq : ∀ w, (Op.equalIn 10000 139 (.agg #[.string (Ch.txN x.nm), .int .i64 x.ty, .int .i64 x.dy, .bool x.cl]) (.agg #[.string (Ch.txN x.nm), .int .i64 x.ty, .int .i64 x.dy, .bool x.cl])).run Tryz.prog w = .ok true w := fun w => by
    rw [run_equalIn_agg w 9999 139 _ _ sd sh]
    have fl : (Tryz.prog.fieldsOf 139).toList.map (fun f => (f.type, f.offset, f.name == "_")) = [(9, 0, false), (3, 1, false), (3, 2, false), (4, 3, false)] := by kernel_rfl
    obtain ⟨f0, f1, f2, f3, hf⟩ : ∃ f0 f1 f2 f3, (Tryz.prog.fieldsOf 139).toList = [f0, f1, f2, f3] := by
      have h := congrArg List.length fl
      rw [List.length_map] at h
      match hq : (Tryz.prog.fieldsOf 139).toList, h with
      | [f0, f1, f2, f3], _ => exact ⟨f0, f1, f2, f3, rfl⟩
    have h := fl
    rw [hf] at h ⊢
    simp at h
    simp [Op.eqFields, go_sem, h, Tryz.underlying9, Tryz.underlying2, Tryz.underlying3, Tryz.underlying4]
  unfold cvA
  go_enter Tryz.func113, Tryz.ntmps113
  go_wp2_with fail
  go_ret
  exact ⟨rfl, bal (bal (Below.refl _ _) _) _⟩
def RoomOutA (X : List Ch.Ac) (n : Nat) (w : World) (e : Ending) (w' : World) : Prop :=
  ∃ g c, e = .returned (.slice (some ⟨g, 0, none⟩) (n + 64) c) ∧ w'.ownsRow w.heap.size 139 4 (.slice (some ⟨g, 0, none⟩) (n + 64) c) (n + 64) (kA.flat (X ++ mklA 700000 64)) ∧ Below w.heap.size w w'
structure RoomAtA (X : List Ch.Ac) (n : Nat) (w : World) (j : Nat) (v : Value) (wr : World) : Prop where
  own : wr.ownsRow w.heap.size 139 4 v (n + j) (kA.flat (X ++ mklA 700000 j))
  bel : Below w.heap.size w wr
theorem own_lit0A (w : World) : (w.alloc (.cells #[] 139)).ownsRow w.heap.size 139 4 (.slice (some ⟨w.heap.size, 0, none⟩) 0 0) 0 (kA.flat []) := by
  refine ⟨by simp [Kd.flat], .inr ⟨w.heap.size, 0, #[], rfl, Nat.le_refl _, ?_, Nat.le_refl _, Nat.zero_le _, by simp, by simp [Kd.flat]⟩⟩
  exact heap_new w _
set_option maxRecDepth 100000 in
set_option maxHeartbeats 4000000 in
theorem roomA (X : List Ch.Ac) (pp : Option Addr) (n cc : Nat) (hX : X.length = n) (hcc : pp = none → cc = 0) (hn : n ≤ 1048576) (w : World) (hP : Pw w) (hL : Lies kA w pp X) :
    Calls Tryz.prog 24 #[.slice pp n cc] w fun e w' => RoomOutA X n w e w' := by
  have b0 : Below w.heap.size w (w.alloc (.cells #[] 139)) := bal (Below.refl _ w) _
  obtain ⟨p5, c5, w5, r5, o5, b5, _⟩ := run_app (K := kA) kA_ok (L := []) (M := X) 55 (own_lit0A w) b0.size pp cc hcc (hL.below b0) (by rw [hX]; omega)
  rw [hX, Nat.zero_add] at r5 o5
  rw [List.nil_append] at o5
  have HS : Hid (RoomAtA X n w 0 (.slice p5 n c5) w5) := ⟨by rw [show mklA 700000 0 = [] from rfl, List.append_nil]; exact o5, b0.trans (b5.mono (Nat.le_refl _))⟩
  have HR5 := hide r5; have HPW := hide hP
  clear r5 o5 b5 b0 hP hL hcc hX
  go_enter Tryz.func24, Tryz.ntmps24
  go_wp2_with (at_builtin; refine wpList_append_run rfl _ _ 55 rfl _ _ _ _ rfl rfl (unhide HR5) ?_)
  go_loopw [3, 4] (fun v i wr => ∃ j : Nat, j ≤ 64 ∧ i = .int .i64 (j : Int) ∧ (∃ p' c', v = .slice p' (n + j) c') ∧ Hid (RoomAtA X n w j v wr)) (fun _ i _ => 64 - (intOf i).toNat)
  case atStart => exact ⟨0, by omega, rfl, ⟨_, _, rfl⟩, unhide HS⟩
  case round =>
    obtain ⟨j, hj, rfl, ⟨p7, c7, rfl⟩, HA⟩ := hrel
    have hA := unhide HA
    by_cases hlt : j < 64
    · have hI : (j : Int) < 64 := by omega
      have hmk := hide (markA 700000 j (by omega) (by omega) wr ((unhide HPW).below hA.bel))
      obtain ⟨O, hO⟩ : ∃ O, O = Obj.cells #[.string (Ch.txN (mkS 700000 j).data.toList), .int .i64 (-(j : Int) - 1), .int .i64 0, .bool false] 139 := ⟨_, rfl⟩
      have HSTEP : Hid (∀ w2, Below wr.heap.size wr w2 → ∃ p' c' w', (Builtin.append_ #[55, 55] 55 #[.slice p7 (n + j) c7, .slice (some ⟨w2.heap.size, 0, none⟩) 1 1]).run Tryz.prog (w2.alloc O) = .ok (.slice p' (n + j + 1) c') w' ∧ RoomAtA X n w (j + 1) (.slice p' (n + j + 1) c') w') := fun w2 hb => by
        have hba := bal hb O
        obtain ⟨p', c', w', r, o, b, _⟩ := run_app (K := kA) kA_ok (M := [mkA 700000 j]) 55 (W := w2.alloc O) (row_keep hA.own fun q hq => hba.block q (hA.own.lt q hq).2) (Nat.le_trans hA.bel.size hba.size) (some ⟨w2.heap.size, 0, none⟩) 1 (fun h => by cases h) (by rw [hO]; exact one_lies w2 (mkA 700000 j) 139 _ rfl) (by rw [List.length_singleton]; omega)
        simp only [List.length_singleton] at r o
        refine ⟨p', c', w', r, ⟨?_, (hA.bel.trans (hba.mono hA.bel.size)).trans b⟩⟩
        rw [mklA_succ, ← List.append_assoc]
        exact o
      clear hA
      unfold cvA at hmk
      simp only [mkA] at hmk
      subst hO
      go_wp2_with fail
      refine (unhide hmk).mono ?_
      rintro e w2 ⟨rfl, hb⟩
      obtain ⟨p', c', w', r, hrel⟩ := unhide HSTEP w2 hb
      have HREL := hide hrel
      clear hb hrel HSTEP
      go_wp2_with (at_builtin; refine wpList_append_run rfl _ _ 55 rfl _ _ _ _ rfl rfl r ?_)
      exact ⟨⟨j + 1, by omega, by go_num, ⟨_, _, rfl⟩, unhide HREL⟩, by simp [intOf]; omega⟩
    · have hj64 : j = 64 := by omega
      subst hj64
      have HF : Hid (∀ e, e = Ending.returned (.slice p7 (n + 64) c7) → RoomOutA X n w e wr) := fun e he => by
        obtain ⟨g, c, hv⟩ := own_open hA.own (by omega)
        injection hv with h1 _ h2
        subst h1 h2
        exact ⟨g, c7, he, hA.own, hA.bel⟩
      clear hA
      go_wp2_with fail
      go_ret
      exact unhide HF _ rfl
attribute [local go_sem ↓] ldA_is
theorem ldBA {w : World} {p : Option Addr} {L : List Ch.Ac} (h : Lies kA w p L) {k : Nat} (hk : k < L.length) : ∃ b o, p = some ⟨b, o, none⟩ ∧ ∀ W, Below w.heap.size w W → (ldA (.pointer (some ⟨b, o + k * 4, none⟩))).run Tryz.prog W = .ok (cvA L[k]) W := by
  obtain ⟨b, o, e, hb, hr⟩ := h.2 k hk
  exact ⟨b, o, e, fun W hW => run_ldA (fun j u hu => keep1 hW hb (hr j u hu))⟩
set_option maxRecDepth 100000 in
set_option maxHeartbeats 8000000 in
theorem keptA (X : List Ch.Ac) (pp pg : Option Addr) (n cc c : Nat) (hX : X.length = n) (hn : n ≤ 4611686018427387904) (w : World) (hP : Pw w) (hL : Lies kA w pp X) (hG : Lies kA w pg (X ++ mklA 700000 64)) :
    Calls Tryz.prog 28 #[.slice pg (n + 64) c, .slice pp n cc] w fun e w' => e = .returned (.bool true) ∧ Below w.heap.size w w' := by
  have HP := hide hP; have HL := hide hL; have HG := hide hG; have HX := hide hX
  clear hP hL hG hX
  go_enter Tryz.func28, Tryz.ntmps28
  go_wp2_with fail
  go_loopw [5] (fun i wr => ∃ (k : Nat) (K : Int), k ≤ n + 64 ∧ i = .int .i64 K ∧ K = (k : Int) ∧ Hid (Below w.heap.size w wr)) (fun i _ => ((n : Int) + 64 - intOf i).toNat)
  case atStart => exact ⟨0, 0, by omega, rfl, rfl, Below.refl _ _⟩
  case round =>
    obtain ⟨k, K, hk, rfl, hK, HB⟩ := hrel
    have hb := unhide HB
    have HK := hide hK
    have hK0 : 0 ≤ K := by omega
    have hKt : K.toNat = k := by omega
    by_cases hlt : k < n + 64
    · have hI : K < (n : Int) + 64 := by omega
      obtain ⟨b1, o1, e1, r1⟩ := ldBA ((unhide HG).below hb) (k := k) (by rw [List.length_append, unhide HX, mklA_len]; exact hlt)
      subst e1
      by_cases hkn : k < n
      · obtain ⟨b2, o2, e2, r2⟩ := ldBA ((unhide HL).below hb) (k := k) (by rw [unhide HX]; exact hkn)
        subst e2
        rw [List.getElem_append_left (by rw [unhide HX]; exact hkn)] at r1
        obtain ⟨vx, hvx⟩ : ∃ vx, vx = cvA (X[k]'(by rw [unhide HX]; exact hkn)) := ⟨_, rfl⟩
        rw [← hvx] at r1 r2
        have x0 : ∀ P : Bel wr, (ldA (.pointer (some ⟨b1, o1 + k * 4, none⟩))).run Tryz.prog P.W = .ok vx P.W := fun P => r1 P.W P.h
        have y0 : ∀ P : Bel wr, (ldA (.pointer (some ⟨b2, o2 + k * 4, none⟩))).run Tryz.prog P.W = .ok vx P.W := fun P => r2 P.W P.h
        have HSM : Hid (∀ P : Bel wr, Calls Tryz.prog 113 #[vx, vx] P.W fun e w'' => e = .returned (.bool true) ∧ ∃ q : Bel wr, w'' = q.W) := fun P => by
          rw [hvx]
          exact (eqkA _ P.W).mono (fun e w' ⟨h1, h2⟩ => ⟨h1, ⟨w', P.h.trans (h2.mono P.h.size)⟩, rfl⟩)
        subst hK
        have hI1 : (k : Int) < (n : Int) := by omega
        have hI2 : ¬ (n : Int) ≤ (k : Int) := by omega
        have hN2 : ¬ n ≤ k := by omega
        have hD2 : decide (n ≤ k) = false := decide_eq_false hN2
        clear r1 r2 hvx hb hk HK hKt
        go_wp2_with fail
        refine wp_region_quiet_below (by kernel_rfl) (by kernel_rfl) ?_
        repeat (go_big_quiet_step (first | (go_at_call 113; refine unhide HSM _)))
        refine wpQuiet_nil ?_
        rintro _ ⟨P, rfl⟩
        clear x0 y0
        go_wp2_with fail
        exact ⟨⟨k + 1, (k : Int) + 1, by omega, by go_num, by omega, (unhide HB).trans (P.h.mono (unhide HB).size)⟩, by simp [intOf]; omega⟩
      · obtain ⟨j, hjk⟩ : ∃ j, k = n + j := ⟨k - n, by omega⟩
        have ej : ∀ h, (X ++ mklA 700000 64)[k]'h = mkA 700000 j := fun h => by
          have e9 : (X ++ mklA 700000 64)[k]? = some (mkA 700000 j) := by
            rw [List.getElem?_append_right (by rw [unhide HX]; omega), unhide HX, show k - n = j by omega, List.getElem?_eq_getElem (by rw [mklA_len]; omega), mklA_get]
          rw [List.getElem?_eq_getElem h] at e9
          exact Option.some.inj e9
        rw [ej] at r1
        obtain ⟨vx, hvx⟩ : ∃ vx, vx = cvA (mkA 700000 j) := ⟨_, rfl⟩
        rw [← hvx] at r1
        have x0 : ∀ P : Bel wr, (ldA (.pointer (some ⟨b1, o1 + k * 4, none⟩))).run Tryz.prog P.W = .ok vx P.W := fun P => r1 P.W P.h
        have hI1 : ¬ K < (n : Int) := by omega
        have hI2 : (n : Int) ≤ K := by omega
        have hI3 : K - (n : Int) = (j : Int) := by omega
        have hwj : IntKind.i64.wrap (j : Int) = (j : Int) := by rw [IntKind.wrap_i64]; omega
        have hwK : IntKind.i64.wrap (K - (n : Int)) = (j : Int) := by rw [hI3, hwj]
        have hD1 : decide (K < (n : Int)) = false := decide_eq_false hI1
        have hD2 : decide ((n : Int) ≤ K) = true := decide_eq_true hI2
        have HMK : Hid (∀ P : Bel wr, Calls Tryz.prog 101 #[.int .i64 700000, .int .i64 (j : Int)] P.W fun e w'' => e = .returned vx ∧ ∃ q : Bel wr, w'' = q.W) := fun P => by
          rw [hvx]
          exact (markA 700000 j (by omega) (by omega) P.W (((unhide HP).below hb).below P.h)).mono (fun e w' ⟨h1, h2⟩ => ⟨h1, ⟨w', P.h.trans (h2.mono P.h.size)⟩, rfl⟩)
        have HSM : Hid (∀ P : Bel wr, Calls Tryz.prog 113 #[vx, vx] P.W fun e w'' => e = .returned (.bool true) ∧ ∃ q : Bel wr, w'' = q.W) := fun P => by
          rw [hvx]
          exact (eqkA _ P.W).mono (fun e w' ⟨h1, h2⟩ => ⟨h1, ⟨w', P.h.trans (h2.mono P.h.size)⟩, rfl⟩)
        clear r1 hvx hb hK hlt hk hkn hjk ej
        go_wp2_with fail
        refine wp_region_quiet_below (by kernel_rfl) (by kernel_rfl) ?_
        repeat (go_big_quiet_step (first | (go_at_call 113; refine unhide HSM _) | (go_at_call 101; refine unhide HMK _)))
        refine wpQuiet_nil ?_
        rintro _ ⟨P, rfl⟩
        clear x0
        go_wp2_with fail
        exact ⟨⟨k + 1, K + 1, by have := unhide HK; omega, by go_num, by have := unhide HK; omega, (unhide HB).trans (P.h.mono (unhide HB).size)⟩, by have := unhide HK; simp [intOf]; omega⟩
    · have hI : ¬ K < (n : Int) + 64 := by omega
      clear hb hK
      go_wp2_with fail
      go_ret
      exact ⟨rfl, unhide HB⟩
end Go.Proofs.YtcafhmlpmbkhkaaGreatDoor.Kg
