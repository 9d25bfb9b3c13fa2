import Derived.Test.YtcafhmlpmbkhkaaGreatDoorW09
import Derived.Test.YtcafhmlpmbkhkaaGreatDoorW10
import Derived.Laws.StructEq
/- Claims in memory. -/
namespace Go.Proofs.YtcafhmlpmbkhkaaGreatDoor
open Go Go.Shelf Go.ChangeShapes Go.WideShapes Go.ChangeAt Go.RowKit Go.Maps
set_option linter.unusedVariables false
structure Qm where
  key : ByteArray
  acc : ByteArray
  day : Int
  due : Int
  amt : Int
def Qm.vals (x : Qm) : List Value := [.string x.key, .string x.acc, .int .i64 x.day, .int .i64 x.due, .int .i64 x.amt]
def kQ : Kd Qm := ⟨Qm.vals, 5, 46, 53, 56⟩
theorem kQ_ok : KdOK kQ := kd_ok (fun _ => rfl) (by decide) (fun x u hu => by simp [kQ, Qm.vals] at hu; rcases hu with rfl | rfl | rfl | rfl | rfl <;> rfl) Tryz.underlying46 (z := .agg #[.string ⟨#[]⟩, .string ⟨#[]⟩, .int .i64 0, .int .i64 0, .int .i64 0]) (by kernel_rfl) rfl (by decide)
def ldQ (x : Value) : Sem Value := Instr.loadAt 53 x
theorem ldQ_is (x : Value) : Instr.loadAt 53 x = ldQ x := rfl
theorem sizQ : (Tryz.prog.info? 53).map (·.size) = some 5 := by kernel_rfl
def cvQ (x : Qm) : Value := .agg #[.string x.key, .string x.acc, .int .i64 x.day, .int .i64 x.due, .int .i64 x.amt]
theorem run_ldQ {w : World} {b o : Nat} {x : Qm} (h : w.rangeAt b o x.vals) : (ldQ (.pointer (some ⟨b, o, none⟩))).run Tryz.prog w = .ok (cvQ x) w :=
  run_loadAt_mid (P := Tryz.prog) w b o 53 x.vals _ h Tryz.underlying53 rfl sizQ
/-- the block of a variable that holds one -/
def obQ (x : Qm) : Obj := .cells #[.string x.key, .string x.acc, .int .i64 x.day, .int .i64 x.due, .int .i64 x.amt] 53
theorem ld_varQ (w : World) (x : Qm) {W : World} (hb : Below (w.alloc (obQ x)).heap.size (w.alloc (obQ x)) W) : (ldQ (.pointer (some ⟨w.heap.size, 0, none⟩))).run Tryz.prog W = .ok (cvQ x) W := by
  refine run_ldQ fun j u hu => ?_
  rw [Nat.zero_add]
  have h1 : (w.alloc (obQ x)).cell? ⟨w.heap.size, j, none⟩ = some u := by
    have := cell_at (i := j) (heap_new w (obQ x))
    rw [this]
    simpa [Qm.vals] using hu
  exact keep1 hb (by simp) h1
theorem Lies.ldQ {W : World} {p : Option Addr} {L : List Qm} (h : Lies kQ W p L) {k : Nat} (hk : k < L.length) : ∃ b o, p = some ⟨b, o, none⟩ ∧ b < W.heap.size ∧ (ldQ (.pointer (some ⟨b, o + k * 5, none⟩))).run Tryz.prog W = .ok (cvQ L[k]) W := by
  obtain ⟨b, o, e, hb, hr⟩ := h.2 k hk
  exact ⟨b, o, e, hb, run_ldQ hr⟩
end Go.Proofs.YtcafhmlpmbkhkaaGreatDoor
/- The keeper's claims: mark 74, same 100, Room 20, Kept 23. -/
namespace Go.Proofs.YtcafhmlpmbkhkaaGreatDoor.Kg
open Go Go.Shelf Go.ChangeShapes Go.WideShapes Go.ChangeAt Go.RowKit Go.Maps
set_option linter.unusedVariables false
set_option linter.unusedSimpArgs false
def mkQ (id k : Nat) : Qm := ⟨mkS id k, ⟨#[]⟩, -(k : Int) - 1, 0, 0⟩
def mklQ (id n : Nat) : List Qm := (List.range n).map (mkQ id)
theorem mklQ_len (id n : Nat) : (mklQ id n).length = n := by simp [mklQ]
theorem mklQ_get (id n k : Nat) (h : k < (mklQ id n).length) : (mklQ id n)[k] = mkQ id k := by simp [mklQ]
theorem mklQ_succ (id n : Nat) : mklQ id (n + 1) = mklQ id n ++ [mkQ id n] := by simp [mklQ, List.range_succ]
theorem retQ {tmps : Array Value} {w : World} {b : Nat} {x : Qm} (hp : tmps[4]?.getD undef = .pointer (some ⟨b, 0, none⟩)) (h : w.heap[b]? = some (.cells #[.string x.key, .string x.acc, .int .i64 x.day, .int .i64 x.due, .int .i64 x.amt] 53 (0, 0))) :
    (results Tryz.f74 tmps).run Tryz.prog w = .ok (cvQ x) w := by
  have q0 : w.cell? ⟨b, 0, none⟩ = some (.string x.key) := by rw [cell_at h]; rfl
  have q1 : w.cell? ⟨b, 1, none⟩ = some (.string x.acc) := by rw [cell_at h]; rfl
  have q2 : w.cell? ⟨b, 2, none⟩ = some (.int .i64 x.day) := by rw [cell_at h]; rfl
  have q3 : w.cell? ⟨b, 3, none⟩ = some (.int .i64 x.due) := by rw [cell_at h]; rfl
  have q4 : w.cell? ⟨b, 4, none⟩ = some (.int .i64 x.amt) := by rw [cell_at h]; rfl
  simp [results, hp, asAddr, go_sem, q0, q1, q2, q3, q4, cvQ]
set_option maxRecDepth 100000 in
set_option maxHeartbeats 2000000 in
theorem markQ (id k : Nat) (hid : id < 1000000) (hk : k < 1000000) (w : World) (h : Pw w) : Calls Tryz.prog 74 #[.int .i64 (id : Int), .int .i64 (k : Int)] w fun e w' => e = .returned (cvQ (mkQ id k)) ∧ Below w.heap.size w w' := by
  obtain ⟨w1, hw1⟩ : ∃ w1, w1 = w.alloc (.cells #[.string ⟨#[]⟩, .string ⟨#[]⟩, .int .i64 0, .int .i64 0, .int .i64 0] 53) := ⟨_, rfl⟩
  have b1 : Below w.heap.size w w1 := by rw [hw1]; exact bal (Below.refl _ _) _
  have z1 : w1.heap.size = w.heap.size + 1 := by rw [hw1]; simp
  have d := hide (text_any id k hid hk w1 (h.below b1))
  have hR1 : w1.heap[w.heap.size]? = some (.cells #[.string ⟨#[]⟩, .string ⟨#[]⟩, .int .i64 0, .int .i64 0, .int .i64 0] 53 (0, 0)) := by rw [hw1]; exact heap_new _ _
  have HR := hide hR1
  have H1 := hide hw1
  have B1 := hide b1
  have s0 : -9223372036854775808 ≤ -(k : Int) := by omega
  have s1 : -(k : Int) ≤ 9223372036854775807 := by omega
  have s2 : -9223372036854775808 ≤ -(k : Int) - 1 := by omega
  have s3 : -(k : Int) - 1 ≤ 9223372036854775807 := by omega
  clear h hw1 b1 hR1
  go_enter Tryz.func74, Tryz.ntmps74
  go_wp2_with fail
  rw [← unhide H1]
  refine (unhide d).mono ?_
  rintro e w2 ⟨rfl, hg⟩
  have hb2 := hg.below
  have hR2 := (hb2.block w.heap.size (by omega)).trans (unhide HR)
  have q0 : w2.cell? ⟨w.heap.size, 0, none⟩ = some (.string ⟨#[]⟩) := by rw [cell_at hR2]; rfl
  have f0 : w2.frozen? ⟨w.heap.size, 0, none⟩ = false := froz_at hR2
  have q1 : w2.cell? ⟨w.heap.size, 1, none⟩ = some (.string ⟨#[]⟩) := by rw [cell_at hR2]; rfl
  have f1 : w2.frozen? ⟨w.heap.size, 1, none⟩ = false := froz_at hR2
  have q2 : w2.cell? ⟨w.heap.size, 2, none⟩ = some (.int .i64 0) := by rw [cell_at hR2]; rfl
  have f2 : w2.frozen? ⟨w.heap.size, 2, none⟩ = false := froz_at hR2
  have q3 : w2.cell? ⟨w.heap.size, 3, none⟩ = some (.int .i64 0) := by rw [cell_at hR2]; rfl
  have f3 : w2.frozen? ⟨w.heap.size, 3, none⟩ = false := froz_at hR2
  have q4 : w2.cell? ⟨w.heap.size, 4, none⟩ = some (.int .i64 0) := by rw [cell_at hR2]; rfl
  have f4 : w2.frozen? ⟨w.heap.size, 4, none⟩ = false := froz_at hR2
  have HR2 := hide hR2
  have B2 : Hid (Below w.heap.size w w2) := (unhide B1).trans (hb2.mono (unhide B1).size)
  clear hg hb2 hR2
  go_wp2_with fail
  refine bodyPost_ret (retQ (b := w.heap.size) (x := mkQ id k) (by rfl) ?_) rfl ⟨rfl, ?_⟩
  · rw [Go.heap_setCell_same _ _ _ _ _ _ (Go.heap_setCell_same _ _ _ _ _ _ (Go.heap_setCell_same _ _ _ _ _ _ (Go.heap_setCell_same _ _ _ _ _ _ (Go.heap_setCell_same _ _ _ _ _ _ (unhide HR2)))))]
    rfl
  · exact ((((((unhide B2).setCell (p := ⟨w.heap.size, 0, none⟩) (Nat.le_refl _) _).setCell (p := ⟨w.heap.size, 1, none⟩) (Nat.le_refl _) _).setCell (p := ⟨w.heap.size, 2, none⟩) (Nat.le_refl _) _).setCell (p := ⟨w.heap.size, 3, none⟩) (Nat.le_refl _) _).setCell (p := ⟨w.heap.size, 4, none⟩) (Nat.le_refl _) _)
set_option maxRecDepth 100000 in
set_option maxHeartbeats 2000000 in
theorem eqkQ (x : Qm) (w : World) : Calls Tryz.prog 100 #[cvQ x, cvQ x] w fun e w' => e = .returned (.bool true) ∧ Below w.heap.size w w' := by
  have sd : Tryz.prog.underlying 53 = some (.struct (Tryz.prog.fieldsOf 53)) := by kernel_rfl
  have sh : Tryz.prog.stoodInHeld 53 = false := by kernel_rfl
  have eg : Tryz.prog.eqGuardType Tryz.prog.depth 53 = false := by kernel_rfl
  have heq : ∀ w, (Op.equalIn 10000 53 (.agg #[.string x.key, .string x.acc, .int .i64 x.day, .int .i64 x.due, .int .i64 x.amt]) (.agg #[.string x.key, .string x.acc, .int .i64 x.day, .int .i64 x.due, .int .i64 x.amt])).run Tryz.prog w = .ok true w := fun w => by
    rw [run_equalIn_agg w 9999 53 _ _ sd sh]
    have fl : (Tryz.prog.fieldsOf 53).toList.map (fun f => (f.type, f.offset, f.name == "_")) = [(9, 0, false), (9, 1, false), (3, 2, false), (3, 3, false), (2, 4, false)] := by kernel_rfl
    obtain ⟨f0, f1, f2, f3, f4, hf⟩ : ∃ f0 f1 f2 f3 f4, (Tryz.prog.fieldsOf 53).toList = [f0, f1, f2, f3, f4] := by
      have h := congrArg List.length fl
      rw [List.length_map] at h
      match hq : (Tryz.prog.fieldsOf 53).toList, h with
      | [f0, f1, f2, f3, f4], _ => exact ⟨f0, f1, f2, f3, f4, rfl⟩
    have h := fl
    rw [hf] at h ⊢
    simp at h
    simp [Op.eqFields, go_sem, h, Tryz.underlying9, Tryz.underlying2, Tryz.underlying3, Tryz.underlying4]
  unfold cvQ
  go_enter Tryz.func100, Tryz.ntmps100
  go_wp2_with fail
  go_ret
  exact ⟨rfl, bal (bal (Below.refl _ _) _) _⟩
/-- what Room hands back -/
def RoomOutQ (X : List Qm) (n : Nat) (w : World) (e : Ending) (w' : World) : Prop :=
  ∃ g c, e = .returned (.slice (some ⟨g, 0, none⟩) (n + 64) c) ∧ w'.ownsRow w.heap.size 53 5 (.slice (some ⟨g, 0, none⟩) (n + 64) c) (n + 64) (kQ.flat (X ++ mklQ 700000 64)) ∧ Below w.heap.size w w'
/-- the copy while marks are put behind it -/
structure RoomAtQ (X : List Qm) (n : Nat) (w : World) (j : Nat) (v : Value) (wr : World) : Prop where
  own : wr.ownsRow w.heap.size 53 5 v (n + j) (kQ.flat (X ++ mklQ 700000 j))
  bel : Below w.heap.size w wr
theorem own_lit0Q (w : World) : (w.alloc (.cells #[] 53)).ownsRow w.heap.size 53 5 (.slice (some ⟨w.heap.size, 0, none⟩) 0 0) 0 (kQ.flat []) := by
  refine ⟨by simp [Kd.flat], .inr ⟨w.heap.size, 0, #[], rfl, Nat.le_refl _, ?_, Nat.le_refl _, Nat.zero_le _, by simp, by simp [Kd.flat]⟩⟩
  exact heap_new w _
set_option maxRecDepth 100000 in
set_option maxHeartbeats 4000000 in
theorem roomQ (X : List Qm) (pp : Option Addr) (n cc : Nat) (hX : X.length = n) (hcc : pp = none → cc = 0) (hn : n ≤ 1048576) (w : World) (hP : Pw w) (hL : Lies kQ w pp X) :
    Calls Tryz.prog 20 #[.slice pp n cc] w fun e w' => RoomOutQ X n w e w' := by
  have b0 : Below w.heap.size w (w.alloc (.cells #[] 53)) := bal (Below.refl _ w) _
  obtain ⟨p5, c5, w5, r5, o5, b5, _⟩ := run_app (K := kQ) kQ_ok (L := []) (M := X) 46 (own_lit0Q w) b0.size pp cc hcc (hL.below b0) (by rw [hX]; omega)
  rw [hX, Nat.zero_add] at r5 o5
  rw [List.nil_append] at o5
  have HS : Hid (RoomAtQ X n w 0 (.slice p5 n c5) w5) := ⟨by rw [show mklQ 700000 0 = [] from rfl, List.append_nil]; exact o5, b0.trans (b5.mono (Nat.le_refl _))⟩
  have HR5 := hide r5; have HPW := hide hP
  clear r5 o5 b5 b0 hP hL hcc hX
  go_enter Tryz.func20, Tryz.ntmps20
  go_wp2_with (at_builtin; refine wpList_append_run rfl _ _ 46 rfl _ _ _ _ rfl rfl (unhide HR5) ?_)
  go_loopw [3, 4] (fun v i wr => ∃ j : Nat, j ≤ 64 ∧ i = .int .i64 (j : Int) ∧ (∃ p' c', v = .slice p' (n + j) c') ∧ Hid (RoomAtQ X n w j v wr)) (fun _ i _ => 64 - (intOf i).toNat)
  case atStart => exact ⟨0, by omega, rfl, ⟨_, _, rfl⟩, unhide HS⟩
  case round =>
    obtain ⟨j, hj, rfl, ⟨p7, c7, rfl⟩, HA⟩ := hrel
    have hA := unhide HA
    by_cases hlt : j < 64
    · have hI : (j : Int) < 64 := by omega
      have hmk := hide (markQ 700000 j (by omega) (by omega) wr ((unhide HPW).below hA.bel))
      obtain ⟨O, hO⟩ : ∃ O, O = Obj.cells #[.string (mkS 700000 j), .string ⟨#[]⟩, .int .i64 (-(j : Int) - 1), .int .i64 0, .int .i64 0] 53 := ⟨_, rfl⟩
      have HSTEP : Hid (∀ w2, Below wr.heap.size wr w2 → ∃ p' c' w', (Builtin.append_ #[46, 46] 46 #[.slice p7 (n + j) c7, .slice (some ⟨w2.heap.size, 0, none⟩) 1 1]).run Tryz.prog (w2.alloc O) = .ok (.slice p' (n + j + 1) c') w' ∧ RoomAtQ X n w (j + 1) (.slice p' (n + j + 1) c') w') := fun w2 hb => by
        have hba := bal hb O
        obtain ⟨p', c', w', r, o, b, _⟩ := run_app (K := kQ) kQ_ok (M := [mkQ 700000 j]) 46 (W := w2.alloc O) (row_keep hA.own fun q hq => hba.block q (hA.own.lt q hq).2) (Nat.le_trans hA.bel.size hba.size) (some ⟨w2.heap.size, 0, none⟩) 1 (fun h => by cases h) (by rw [hO]; exact one_lies w2 (mkQ 700000 j) 53 _ rfl) (by rw [List.length_singleton]; omega)
        simp only [List.length_singleton] at r o
        refine ⟨p', c', w', r, ⟨?_, (hA.bel.trans (hba.mono hA.bel.size)).trans b⟩⟩
        rw [mklQ_succ, ← List.append_assoc]
        exact o
      clear hA
      unfold cvQ at hmk
      simp only [mkQ] at hmk
      subst hO
      go_wp2_with fail
      refine (unhide hmk).mono ?_
      rintro e w2 ⟨rfl, hb⟩
      obtain ⟨p', c', w', r, hrel⟩ := unhide HSTEP w2 hb
      have HREL := hide hrel
      clear hb hrel HSTEP
      go_wp2_with (at_builtin; refine wpList_append_run rfl _ _ 46 rfl _ _ _ _ rfl rfl r ?_)
      exact ⟨⟨j + 1, by omega, by go_num, ⟨_, _, rfl⟩, unhide HREL⟩, by simp [intOf]; omega⟩
    · have hj64 : j = 64 := by omega
      subst hj64
      have HF : Hid (∀ e, e = Ending.returned (.slice p7 (n + 64) c7) → RoomOutQ X n w e wr) := fun e he => by
        obtain ⟨g, c, hv⟩ := own_open hA.own (by omega)
        injection hv with h1 _ h2
        subst h1 h2
        exact ⟨g, c7, he, hA.own, hA.bel⟩
      clear hA
      go_wp2_with fail
      go_ret
      exact unhide HF _ rfl
attribute [local go_sem ↓] ldQ_is
theorem ldBQ {w : World} {p : Option Addr} {L : List Qm} (h : Lies kQ w p L) {k : Nat} (hk : k < L.length) : ∃ b o, p = some ⟨b, o, none⟩ ∧ ∀ W, Below w.heap.size w W → (ldQ (.pointer (some ⟨b, o + k * 5, none⟩))).run Tryz.prog W = .ok (cvQ L[k]) W := by
  obtain ⟨b, o, e, hb, hr⟩ := h.2 k hk
  exact ⟨b, o, e, fun W hW => run_ldQ (fun j u hu => keep1 hW hb (hr j u hu))⟩
set_option maxRecDepth 100000 in
set_option maxHeartbeats 8000000 in
theorem keptQ (X : List Qm) (pp pg : Option Addr) (n cc c : Nat) (hX : X.length = n) (hn : n ≤ 4611686018427387904) (w : World) (hP : Pw w) (hL : Lies kQ w pp X) (hG : Lies kQ w pg (X ++ mklQ 700000 64)) :
    Calls Tryz.prog 23 #[.slice pg (n + 64) c, .slice pp n cc] w fun e w' => e = .returned (.bool true) ∧ Below w.heap.size w w' := by
  have HP := hide hP; have HL := hide hL; have HG := hide hG; have HX := hide hX
  clear hP hL hG hX
  go_enter Tryz.func23, Tryz.ntmps23
  go_wp2_with fail
  go_loopw [5] (fun i wr => ∃ (k : Nat) (K : Int), k ≤ n + 64 ∧ i = .int .i64 K ∧ K = (k : Int) ∧ Hid (Below w.heap.size w wr)) (fun i _ => ((n : Int) + 64 - intOf i).toNat)
  case atStart => exact ⟨0, 0, by omega, rfl, rfl, Below.refl _ _⟩
  case round =>
    obtain ⟨k, K, hk, rfl, hK, HB⟩ := hrel
    have hb := unhide HB
    have HK := hide hK
    have hK0 : 0 ≤ K := by omega
    have hKt : K.toNat = k := by omega
    by_cases hlt : k < n + 64
    · have hI : K < (n : Int) + 64 := by omega
      obtain ⟨b1, o1, e1, r1⟩ := ldBQ ((unhide HG).below hb) (k := k) (by rw [List.length_append, unhide HX, mklQ_len]; exact hlt)
      subst e1
      by_cases hkn : k < n
      · obtain ⟨b2, o2, e2, r2⟩ := ldBQ ((unhide HL).below hb) (k := k) (by rw [unhide HX]; exact hkn)
        subst e2
        rw [List.getElem_append_left (by rw [unhide HX]; exact hkn)] at r1
        obtain ⟨vx, hvx⟩ : ∃ vx, vx = cvQ (X[k]'(by rw [unhide HX]; exact hkn)) := ⟨_, rfl⟩
        rw [← hvx] at r1 r2
        have x0 : ∀ P : Bel wr, (ldQ (.pointer (some ⟨b1, o1 + k * 5, none⟩))).run Tryz.prog P.W = .ok vx P.W := fun P => r1 P.W P.h
        have y0 : ∀ P : Bel wr, (ldQ (.pointer (some ⟨b2, o2 + k * 5, none⟩))).run Tryz.prog P.W = .ok vx P.W := fun P => r2 P.W P.h
        have HSM : Hid (∀ P : Bel wr, Calls Tryz.prog 100 #[vx, vx] P.W fun e w'' => e = .returned (.bool true) ∧ ∃ q : Bel wr, w'' = q.W) := fun P => by
          rw [hvx]
          exact (eqkQ _ P.W).mono (fun e w' ⟨h1, h2⟩ => ⟨h1, ⟨w', P.h.trans (h2.mono P.h.size)⟩, rfl⟩)
        subst hK
        have hI1 : (k : Int) < (n : Int) := by omega
        have hI2 : ¬ (n : Int) ≤ (k : Int) := by omega
        have hN2 : ¬ n ≤ k := by omega
        have hD2 : decide (n ≤ k) = false := decide_eq_false hN2
        clear r1 r2 hvx hb hk HK hKt
        go_wp2_with fail
        refine wp_region_quiet_below (by kernel_rfl) (by kernel_rfl) ?_
        repeat (go_big_quiet_step (first | (go_at_call 100; refine unhide HSM _)))
        refine wpQuiet_nil ?_
        rintro _ ⟨P, rfl⟩
        clear x0 y0
        go_wp2_with fail
        exact ⟨⟨k + 1, (k : Int) + 1, by omega, by go_num, by omega, (unhide HB).trans (P.h.mono (unhide HB).size)⟩, by simp [intOf]; omega⟩
      · obtain ⟨j, hjk⟩ : ∃ j, k = n + j := ⟨k - n, by omega⟩
        have ej : ∀ h, (X ++ mklQ 700000 64)[k]'h = mkQ 700000 j := fun h => by
          have e9 : (X ++ mklQ 700000 64)[k]? = some (mkQ 700000 j) := by
            rw [List.getElem?_append_right (by rw [unhide HX]; omega), unhide HX, show k - n = j by omega, List.getElem?_eq_getElem (by rw [mklQ_len]; omega), mklQ_get]
          rw [List.getElem?_eq_getElem h] at e9
          exact Option.some.inj e9
        rw [ej] at r1
        obtain ⟨vx, hvx⟩ : ∃ vx, vx = cvQ (mkQ 700000 j) := ⟨_, rfl⟩
        rw [← hvx] at r1
        have x0 : ∀ P : Bel wr, (ldQ (.pointer (some ⟨b1, o1 + k * 5, none⟩))).run Tryz.prog P.W = .ok vx P.W := fun P => r1 P.W P.h
        have hI1 : ¬ K < (n : Int) := by omega
        have hI2 : (n : Int) ≤ K := by omega
        have hI3 : K - (n : Int) = (j : Int) := by omega
        have hwj : IntKind.i64.wrap (j : Int) = (j : Int) := by rw [IntKind.wrap_i64]; omega
        have hwK : IntKind.i64.wrap (K - (n : Int)) = (j : Int) := by rw [hI3, hwj]
        have hD1 : decide (K < (n : Int)) = false := decide_eq_false hI1
        have hD2 : decide ((n : Int) ≤ K) = true := decide_eq_true hI2
        have HMK : Hid (∀ P : Bel wr, Calls Tryz.prog 74 #[.int .i64 700000, .int .i64 (j : Int)] P.W fun e w'' => e = .returned vx ∧ ∃ q : Bel wr, w'' = q.W) := fun P => by
          rw [hvx]
          exact (markQ 700000 j (by omega) (by omega) P.W (((unhide HP).below hb).below P.h)).mono (fun e w' ⟨h1, h2⟩ => ⟨h1, ⟨w', P.h.trans (h2.mono P.h.size)⟩, rfl⟩)
        have HSM : Hid (∀ P : Bel wr, Calls Tryz.prog 100 #[vx, vx] P.W fun e w'' => e = .returned (.bool true) ∧ ∃ q : Bel wr, w'' = q.W) := fun P => by
          rw [hvx]
          exact (eqkQ _ P.W).mono (fun e w' ⟨h1, h2⟩ => ⟨h1, ⟨w', P.h.trans (h2.mono P.h.size)⟩, rfl⟩)
        clear r1 hvx hb hK hlt hk hkn hjk ej
        go_wp2_with fail
        refine wp_region_quiet_below (by kernel_rfl) (by kernel_rfl) ?_
        repeat (go_big_quiet_step (first | (go_at_call 100; refine unhide HSM _) | (go_at_call 74; refine unhide HMK _)))
        refine wpQuiet_nil ?_
        rintro _ ⟨P, rfl⟩
        clear x0
        go_wp2_with fail
        exact ⟨⟨k + 1, K + 1, by have := unhide HK; omega, by go_num, by have := unhide HK; omega, (unhide HB).trans (P.h.mono (unhide HB).size)⟩, by have := unhide HK; simp [intOf]; omega⟩
    · have hI : ¬ K < (n : Int) + 64 := by omega
      clear hb hK
      go_wp2_with fail
      go_ret
      exact ⟨rfl, unhide HB⟩
end Go.Proofs.YtcafhmlpmbkhkaaGreatDoor.Kg
