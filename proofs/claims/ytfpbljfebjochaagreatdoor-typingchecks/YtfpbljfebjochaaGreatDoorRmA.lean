/- typing: the marks, room and kept of nodes and numbers. -/
import Derived.Test.YtfpbljfebjochaaGreatDoorTyU
import Derived.Laws.StructEq
import Derived.ChangeKeysEq
namespace Go.Proofs.YtfpbljfebjochaaGreatDoor
open Go Go.Shelf Go.ChangeShapes Go.WideShapes Go.ChangeAt Go.RowKit Go.Maps
set_option linter.unusedVariables false
set_option linter.unusedSimpArgs false
set_option maxRecDepth 100000
set_option maxHeartbeats 8000000
def mks {α : Type} (f : Nat → α) (j : Nat) : List α := (List.range j).map f
theorem mks_succ {α : Type} (f : Nat → α) (j : Nat) : mks f (j + 1) = mks f j ++ [f j] := by simp [mks, List.range_succ]
theorem mks_len {α : Type} (f : Nat → α) (j : Nat) : (mks f j).length = j := by simp [mks]
theorem mks_get {α : Type} (f : Nat → α) {j k : Nat} (h : k < j) : (mks f j)[k]? = some (f k) := by simp [mks, h]
theorem marked_get {α : Type} {X : List α} {f : Nat → α} {n j : Nat} (hX : X.length = n) (hj : j < 64) (h : n + j < (X ++ mks f 64).length) : (X ++ mks f 64)[n + j]'h = f j := by
  have e : (X ++ mks f 64)[n + j]? = some (f j) := by rw [List.getElem?_append_right (by omega), hX, show n + j - n = j by omega]; exact mks_get f hj
  rw [List.getElem?_eq_getElem h] at e
  exact Option.some.inj e
/-- the marks behind nodes, and behind numbers -/
def mkN (k : Nat) : Nd := ⟨-700001, -(k : Int) - 1, 0, 0, 0, ⟨#[]⟩⟩
def mkI (k : Nat) : Int := -1000000 - (k : Int)
theorem mark59 (k : Nat) (hk : k ≤ 64) (w : World) : Calls Tryz.prog 147 #[.int .i64 700000, .int .i64 (k : Int)] w fun e w' => e = .returned (mkN k).val ∧ Below w.heap.size w w' := by
  have s1 : IntKind.i64.wrap (-(k : Int)) = -(k : Int) := by rw [IntKind.wrap_i64]; omega
  have s2 : IntKind.i64.wrap (-(k : Int) - 1) = -(k : Int) - 1 := by rw [IntKind.wrap_i64]; omega
  go_enter Tryz.func147, Tryz.ntmps147
  go_wp2_with fail
  refine bodyPost_ret (v := (mkN k).val) ?_ rfl ⟨rfl, ?_⟩
  · simp [results, Tryz.results147, go_sem, Nd.val, mkN]
  · exact Below.a1 w _
theorem mark60 (k : Nat) (hk : k ≤ 64) (w : World) : Calls Tryz.prog 69 #[.int .i64 700000, .int .i64 (k : Int)] w fun e w' => e = .returned (.int .i64 (mkI k)) ∧ w' = w := by
  have s1 : IntKind.i64.wrap (-1000000 - (k : Int)) = -1000000 - (k : Int) := by rw [IntKind.wrap_i64]; omega
  go_enter Tryz.func69, Tryz.ntmps69
  go_wp2_with fail
  go_ret
  exact ⟨rfl, rfl⟩
theorem eq37 (x : Nd) (w : World) : (Op.equalIn 10000 61 x.val x.val).run Tryz.prog w = .ok true w := by
  have sd : Tryz.prog.underlying 61 = some (.struct (Tryz.prog.fieldsOf 61)) := by kernel_rfl
  have sh : Tryz.prog.stoodInHeld 61 = false := by kernel_rfl
  unfold Nd.val
  rw [run_equalIn_agg w 9999 61 _ _ sd sh]
  have fl : (Tryz.prog.fieldsOf 61).toList.map (fun f => (f.type, f.offset, f.name == "_")) = [(3, 0, false), (3, 1, false), (3, 2, false), (3, 3, false), (2, 4, false), (9, 5, false)] := by kernel_rfl
  obtain ⟨f0, f1, f2, f3, f4, f5, hf⟩ : ∃ f0 f1 f2 f3 f4 f5, (Tryz.prog.fieldsOf 61).toList = [f0, f1, f2, f3, f4, f5] := by
    have h := congrArg List.length fl
    rw [List.length_map] at h
    match hq : (Tryz.prog.fieldsOf 61).toList, h with
    | [f0, f1, f2, f3, f4, f5], _ => exact ⟨f0, f1, f2, f3, f4, f5, rfl⟩
  have h := fl
  rw [hf] at h ⊢
  simp at h
  simp [Op.eqFields, go_sem, h, Tryz.underlying2, Tryz.underlying9, Tryz.underlying3]
theorem same61 (x : Nd) (w : World) : Calls Tryz.prog 148 #[x.val, x.val] w fun e w' => e = .returned (.bool true) ∧ Below w.heap.size w w' := by
  have eg : Tryz.prog.eqGuardType Tryz.prog.depth 61 = false := by kernel_rfl
  have he := eq37 x
  unfold Nd.val at he ⊢
  go_enter Tryz.func148, Tryz.ntmps148
  go_wp2_with fail
  go_ret
  exact ⟨rfl, Below.a2 w _ _⟩
theorem same62 (x : Int) (w : World) : Calls Tryz.prog 149 #[.int .i64 x, .int .i64 x] w fun e w' => e = .returned (.bool true) ∧ w' = w := by
  go_enter Tryz.func149, Tryz.ntmps149
  go_wp2_with fail
  go_ret
  exact ⟨rfl, rfl⟩

theorem room34 {W : World} {X : List Nd} {p : Option Addr} {c : Nat} (hc : p = none → c = 0) (hL : Lies kN W p X) (hn : X.length ≤ 2600000000000) : Calls Tryz.prog 65 #[.slice p X.length c] W fun e w' => ∃ p' c', e = .returned (.slice p' (X.length + 64) c') ∧ Rw kN W w' (.slice p' (X.length + 64) c') (X.length + 64) (X ++ mks mkN 64) := by
  obtain ⟨n, hX⟩ : ∃ n, n = X.length := ⟨_, rfl⟩
  obtain ⟨p1, c1, w1, r1, R1⟩ := Rw.copy kN_ok W X p c hc hL 22 (by omega) (nat_bound (c := 2600000000000) hn (by decide))
  have HS : Hid (Rw kN W w1 (.slice p1 n c1) (n + 0) (X ++ mks mkN 0)) := by rw [hX]; show Rw _ _ _ _ _ (X ++ []); rw [List.append_nil]; exact R1
  rw [← hX] at r1 hn ⊢
  have HR1 : Hid ((Builtin.append_ #[22, 22] 22 #[.slice (some ⟨W.heap.size, 0, none⟩) 0 0, .slice p n c]).run Tryz.prog (W.alloc (.cells #[] kN.e)) = .ok (.slice p1 n c1) w1) := r1
  have g7 := bs27
  clear r1 R1 hL hc hX
  go_enter Tryz.func65, Tryz.ntmps65
  go_wp2_with (at_builtin; refine wpList_append_run rfl _ _ 22 rfl _ _ _ _ rfl rfl (unhide HR1) ?_)
  go_loopw [3, 4] (fun v i wr => ∃ j : Nat, j ≤ 64 ∧ i = .int .i64 (j : Int) ∧ (∃ p' c', v = .slice p' (n + j) c' ∧ Hid (Rw kN W wr (.slice p' (n + j) c') (n + j) (X ++ mks mkN j)))) (fun _ i _ => 64 - (intOf i).toNat)
  case atStart => exact ⟨0, by omega, rfl, _, _, rfl, unhide HS⟩
  case round =>
    obtain ⟨j, hj, rfl, p7, c7, rfl, HA⟩ := hrel
    by_cases hlt : j < 64
    · have hI : (j : Int) < 64 := by omega
      have hmk := hide (mark59 j (by omega) wr)
      unfold mkN Nd.val at hmk
      simp only at hmk
      go_wp2_with fail
      refine (unhide hmk).mono ?_
      rintro e w2 ⟨rfl, hb⟩
      obtain ⟨p8, c8, w8, r8, o8⟩ := ((unhide HA).below hb).put kN_ok (mkN j) #[.int .i64 (-700001), .int .i64 (-(j : Int) - 1), .int .i64 0, .int .i64 0, .int .i64 0, .string ⟨#[]⟩] rfl 22 (by omega) (nat_bound (c := 2600000000000 + 64) (by omega) (by decide))
      rw [List.append_assoc, ← mks_succ] at o8
      have HR8 : Hid ((Builtin.append_ #[22, 22] 22 #[.slice p7 (n + j) c7, .slice (some ⟨w2.heap.size, 0, none⟩) 1 1]).run Tryz.prog (w2.alloc (.cells #[.int .i64 (-700001), .int .i64 (-(j : Int) - 1), .int .i64 0, .int .i64 0, .int .i64 0, .string ⟨#[]⟩] kN.e)) = .ok (.slice p8 (n + j + 1) c8) w8) := r8
      have HO8 := hide o8
      clear hb r8 o8
      go_wp2_with (at_builtin; refine wpList_append_run rfl _ _ 22 rfl _ _ _ _ rfl rfl (unhide HR8) ?_)
      exact ⟨⟨j + 1, by omega, by go_num, _, _, rfl, unhide HO8⟩, by simp [intOf]; omega⟩
    · have hj64 : j = 64 := by omega
      subst hj64
      go_wp2_with fail
      go_ret
      exact ⟨p7, c7, rfl, unhide HA⟩

theorem room35 {W : World} {X : List Int} {p : Option Addr} {c : Nat} (hc : p = none → c = 0) (hL : Lies kI W p X) (hn : X.length ≤ 17600000000000) : Calls Tryz.prog 66 #[.slice p X.length c] W fun e w' => ∃ p' c', e = .returned (.slice p' (X.length + 64) c') ∧ Rw kI W w' (.slice p' (X.length + 64) c') (X.length + 64) (X ++ mks mkI 64) := by
  obtain ⟨n, hX⟩ : ∃ n, n = X.length := ⟨_, rfl⟩
  obtain ⟨p1, c1, w1, r1, R1⟩ := Rw.copy kI_ok W X p c hc hL 23 (by omega) (nat_bound (c := 17600000000000) hn (by decide))
  have HS : Hid (Rw kI W w1 (.slice p1 n c1) (n + 0) (X ++ mks mkI 0)) := by rw [hX]; show Rw _ _ _ _ _ (X ++ []); rw [List.append_nil]; exact R1
  rw [← hX] at r1 hn ⊢
  have HR1 : Hid ((Builtin.append_ #[23, 23] 23 #[.slice (some ⟨W.heap.size, 0, none⟩) 0 0, .slice p n c]).run Tryz.prog (W.alloc (.cells #[] kI.e)) = .ok (.slice p1 n c1) w1) := r1
  have g7 := bs28
  clear r1 R1 hL hc hX
  go_enter Tryz.func66, Tryz.ntmps66
  go_wp2_with (at_builtin; refine wpList_append_run rfl _ _ 23 rfl _ _ _ _ rfl rfl (unhide HR1) ?_)
  go_loopw [3, 4] (fun v i wr => ∃ j : Nat, j ≤ 64 ∧ i = .int .i64 (j : Int) ∧ (∃ p' c', v = .slice p' (n + j) c' ∧ Hid (Rw kI W wr (.slice p' (n + j) c') (n + j) (X ++ mks mkI j)))) (fun _ i _ => 64 - (intOf i).toNat)
  case atStart => exact ⟨0, by omega, rfl, _, _, rfl, unhide HS⟩
  case round =>
    obtain ⟨j, hj, rfl, p7, c7, rfl, HA⟩ := hrel
    by_cases hlt : j < 64
    · have hI : (j : Int) < 64 := by omega
      have hmk := hide (mark60 j (by omega) wr)
      unfold mkI at hmk
      skip
      go_wp2_with fail
      refine (unhide hmk).mono ?_
      rintro e w2 ⟨rfl, rfl⟩
      have hb := Below.refl w2.heap.size w2
      obtain ⟨p8, c8, w8, r8, o8⟩ := ((unhide HA).below hb).put kI_ok (mkI j) #[.int .i64 (-1000000 - (j : Int))] rfl 23 (by omega) (nat_bound (c := 17600000000000 + 64) (by omega) (by decide))
      rw [List.append_assoc, ← mks_succ] at o8
      have HR8 : Hid ((Builtin.append_ #[23, 23] 23 #[.slice p7 (n + j) c7, .slice (some ⟨w2.heap.size, 0, none⟩) 1 1]).run Tryz.prog (w2.alloc (.cells #[.int .i64 (-1000000 - (j : Int))] kI.e)) = .ok (.slice p8 (n + j + 1) c8) w8) := r8
      have HO8 := hide o8
      clear hb r8 o8
      go_wp2_with (at_builtin; refine wpList_append_run rfl _ _ 23 rfl _ _ _ _ rfl rfl (unhide HR8) ?_)
      exact ⟨⟨j + 1, by omega, by go_num, _, _, rfl, unhide HO8⟩, by simp [intOf]; omega⟩
    · have hj64 : j = 64 := by omega
      subst hj64
      go_wp2_with fail
      go_ret
      exact ⟨p7, c7, rfl, unhide HA⟩
attribute [local go_sem ↓] ld37_is

theorem kept36 {W : World} {X : List Nd} {n : Nat} {pp pg : Option Addr} {cc c : Nat} (hX : X.length = n) (hn : n ≤ 4611686018427387904) (hL : Lies kN W pp X) (hG : Lies kN W pg (X ++ mks mkN 64)) : Calls Tryz.prog 67 #[.slice pg (n + 64) c, .slice pp n cc] W fun e w' => e = .returned (.bool true) ∧ Below W.heap.size W w' := by
  have HL := hide hL; have HG := hide hG; have HX := hide hX
  clear hL hG hX
  go_enter Tryz.func67, Tryz.ntmps67
  go_wp2_with fail
  go_loopw [5] (fun i wr => ∃ (k : Nat) (K : Int), k ≤ n + 64 ∧ i = .int .i64 K ∧ K = (k : Int) ∧ Hid (Below W.heap.size W wr)) (fun i _ => ((n : Int) + 64 - intOf i).toNat)
  case atStart => exact ⟨0, 0, by omega, rfl, rfl, Below.refl _ _⟩
  case round =>
    obtain ⟨k, K, hk, rfl, hK, HB⟩ := hrel
    have hb := unhide HB
    have HK := hide hK
    have hK0 : 0 ≤ K := by omega
    have hKt : K.toNat = k := by omega
    by_cases hlt : k < n + 64
    · have hI : K < (n : Int) + 64 := by omega
      obtain ⟨b1, o1, e1, l1, r1⟩ := ((unhide HG).below hb).2 k (by rw [List.length_append, unhide HX, mks_len]; exact hlt)
      subst e1
      by_cases hkn : k < n
      · obtain ⟨b2, o2, e2, l2, r2⟩ := ((unhide HL).below hb).2 k (by rw [unhide HX]; exact hkn)
        subst e2
        rw [List.getElem_append_left (by rw [unhide HX]; exact hkn)] at r1
        obtain ⟨vx, hvx⟩ : ∃ vx : Value, vx = (X[k]'(by rw [unhide HX]; exact hkn)).val := ⟨_, rfl⟩
        have x0 : ∀ P : Bel wr, (ld37 (.pointer (some ⟨b1, o1 + k * 6, none⟩))).run Tryz.prog P.W = .ok vx P.W := fun P => by rw [hvx]; exact run_ld37 (fun u v hv => (P.h.cell (p := ⟨b1, o1 + k * 6 + u, none⟩) (by assumption)).trans (r1 u v hv))
        have y0 : ∀ P : Bel wr, (ld37 (.pointer (some ⟨b2, o2 + k * 6, none⟩))).run Tryz.prog P.W = .ok vx P.W := fun P => by rw [hvx]; exact run_ld37 (fun u v hv => (P.h.cell (p := ⟨b2, o2 + k * 6 + u, none⟩) (by assumption)).trans (r2 u v hv))
        have HSM : Hid (∀ P : Bel wr, Calls Tryz.prog 148 #[vx, vx] P.W fun e w'' => e = .returned (.bool true) ∧ ∃ q : Bel wr, w'' = q.W) := fun P => by
          rw [hvx]
          exact Bel.calls P (same61 _ P.W)
        subst hK
        have hI1 : (k : Int) < (n : Int) := by omega
        have hI2 : ¬ (n : Int) ≤ (k : Int) := by omega
        have hN2 : ¬ n ≤ k := by omega
        have hD2 : decide (n ≤ k) = false := decide_eq_false hN2
        clear r1 r2 hvx hb hk HK hKt l1 l2
        go_wp2_with fail
        refine wp_region_quiet_below (by kernel_rfl) (by kernel_rfl) ?_
        repeat (go_big_quiet_step (first | (go_at_call 148; refine unhide HSM _)))
        refine wpQuiet_nil ?_
        rintro _ ⟨P, rfl⟩
        clear x0 y0
        go_wp2_with fail
        exact ⟨⟨k + 1, (k : Int) + 1, by omega, by go_num, by omega, (unhide HB).trans (P.h.mono (unhide HB).size)⟩, by simp [intOf]; omega⟩
      · obtain ⟨j, hjk⟩ : ∃ j, k = n + j := ⟨k - n, by omega⟩
        have ej : ∀ h, (X ++ mks mkN 64)[k]'h = mkN j := fun h => by
          subst hjk
          exact marked_get (unhide HX) (by omega) h
        rw [ej] at r1
        obtain ⟨vx, hvx⟩ : ∃ vx : Value, vx = (mkN j).val := ⟨_, rfl⟩
        have x0 : ∀ P : Bel wr, (ld37 (.pointer (some ⟨b1, o1 + k * 6, none⟩))).run Tryz.prog P.W = .ok vx P.W := fun P => by rw [hvx]; exact run_ld37 (fun u v hv => (P.h.cell (p := ⟨b1, o1 + k * 6 + u, none⟩) (by assumption)).trans (r1 u v hv))
        have hI1 : ¬ K < (n : Int) := by omega
        have hI2 : (n : Int) ≤ K := by omega
        have hI3 : K - (n : Int) = (j : Int) := by omega
        have hwj : IntKind.i64.wrap (j : Int) = (j : Int) := by rw [IntKind.wrap_i64]; omega
        have hwK : IntKind.i64.wrap (K - (n : Int)) = (j : Int) := by rw [hI3, hwj]
        have hD1 : decide (K < (n : Int)) = false := decide_eq_false hI1
        have hD2 : decide ((n : Int) ≤ K) = true := decide_eq_true hI2
        have HMK : Hid (∀ P : Bel wr, Calls Tryz.prog 147 #[.int .i64 700000, .int .i64 (j : Int)] P.W fun e w'' => e = .returned vx ∧ ∃ q : Bel wr, w'' = q.W) := fun P => by
          rw [hvx]
          exact Bel.calls P (mark59 j (by omega) P.W)
        have HSM : Hid (∀ P : Bel wr, Calls Tryz.prog 148 #[vx, vx] P.W fun e w'' => e = .returned (.bool true) ∧ ∃ q : Bel wr, w'' = q.W) := fun P => by
          rw [hvx]
          exact Bel.calls P (same61 _ P.W)
        clear r1 hvx hb hK hlt hk hkn hjk ej l1
        go_wp2_with fail
        refine wp_region_quiet_below (by kernel_rfl) (by kernel_rfl) ?_
        repeat (go_big_quiet_step (first | (go_at_call 148; refine unhide HSM _) | (go_at_call 147; refine unhide HMK _)))
        refine wpQuiet_nil ?_
        rintro _ ⟨P, rfl⟩
        clear x0
        go_wp2_with fail
        exact ⟨⟨k + 1, K + 1, by have := unhide HK; omega, by go_num, by have := unhide HK; omega, (unhide HB).trans (P.h.mono (unhide HB).size)⟩, by have := unhide HK; simp [intOf]; omega⟩
    · have hI : ¬ K < (n : Int) + 64 := by omega
      clear hb hK
      go_wp2_with fail
      go_ret
      exact ⟨rfl, unhide HB⟩

theorem kept37 {W : World} {X : List Int} {n : Nat} {pp pg : Option Addr} {cc c : Nat} (hX : X.length = n) (hn : n ≤ 4611686018427387904) (hL : Lies kI W pp X) (hG : Lies kI W pg (X ++ mks mkI 64)) : Calls Tryz.prog 68 #[.slice pg (n + 64) c, .slice pp n cc] W fun e w' => e = .returned (.bool true) ∧ Below W.heap.size W w' := by
  have HL := hide hL; have HG := hide hG; have HX := hide hX
  clear hL hG hX
  go_enter Tryz.func68, Tryz.ntmps68
  go_wp2_with fail
  go_loopw [5] (fun i wr => ∃ (k : Nat) (K : Int), k ≤ n + 64 ∧ i = .int .i64 K ∧ K = (k : Int) ∧ Hid (Below W.heap.size W wr)) (fun i _ => ((n : Int) + 64 - intOf i).toNat)
  case atStart => exact ⟨0, 0, by omega, rfl, rfl, Below.refl _ _⟩
  case round =>
    obtain ⟨k, K, hk, rfl, hK, HB⟩ := hrel
    have hb := unhide HB
    have HK := hide hK
    have hK0 : 0 ≤ K := by omega
    have hKt : K.toNat = k := by omega
    by_cases hlt : k < n + 64
    · have hI : K < (n : Int) + 64 := by omega
      obtain ⟨b1, o1, e1, l1, r1⟩ := ((unhide HG).below hb).2 k (by rw [List.length_append, unhide HX, mks_len]; exact hlt)
      subst e1
      by_cases hkn : k < n
      · obtain ⟨b2, o2, e2, l2, r2⟩ := ((unhide HL).below hb).2 k (by rw [unhide HX]; exact hkn)
        subst e2
        rw [List.getElem_append_left (by rw [unhide HX]; exact hkn)] at r1
        obtain ⟨vx, hvx⟩ : ∃ vx : Value, vx = .int .i64 (X[k]'(by rw [unhide HX]; exact hkn)) := ⟨_, rfl⟩
        have x0 : ∀ P : Bel wr, P.W.cell? ⟨b1, o1 + k, none⟩ = some vx := fun P => by rw [hvx]; have := (P.h.cell (p := ⟨b1, o1 + k * 1 + 0, none⟩) (by assumption)).trans (r1 0 _ rfl); simpa using this
        have y0 : ∀ P : Bel wr, P.W.cell? ⟨b2, o2 + k, none⟩ = some vx := fun P => by rw [hvx]; have := (P.h.cell (p := ⟨b2, o2 + k * 1 + 0, none⟩) (by assumption)).trans (r2 0 _ rfl); simpa using this
        have HSM : Hid (∀ P : Bel wr, Calls Tryz.prog 149 #[vx, vx] P.W fun e w'' => e = .returned (.bool true) ∧ ∃ q : Bel wr, w'' = q.W) := fun P => by
          rw [hvx]
          exact Bel.same P (same62 _ P.W)
        subst hK
        have hI1 : (k : Int) < (n : Int) := by omega
        have hI2 : ¬ (n : Int) ≤ (k : Int) := by omega
        have hN2 : ¬ n ≤ k := by omega
        have hD2 : decide (n ≤ k) = false := decide_eq_false hN2
        clear r1 r2 hvx hb hk HK hKt l1 l2
        go_wp2_with fail
        refine wp_region_quiet_below (by kernel_rfl) (by kernel_rfl) ?_
        repeat (go_big_quiet_step (first | (go_at_call 149; refine unhide HSM _)))
        refine wpQuiet_nil ?_
        rintro _ ⟨P, rfl⟩
        clear x0 y0
        go_wp2_with fail
        exact ⟨⟨k + 1, (k : Int) + 1, by omega, by go_num, by omega, (unhide HB).trans (P.h.mono (unhide HB).size)⟩, by simp [intOf]; omega⟩
      · obtain ⟨j, hjk⟩ : ∃ j, k = n + j := ⟨k - n, by omega⟩
        have ej : ∀ h, (X ++ mks mkI 64)[k]'h = mkI j := fun h => by
          subst hjk
          exact marked_get (unhide HX) (by omega) h
        rw [ej] at r1
        obtain ⟨vx, hvx⟩ : ∃ vx : Value, vx = .int .i64 (mkI j) := ⟨_, rfl⟩
        have x0 : ∀ P : Bel wr, P.W.cell? ⟨b1, o1 + k, none⟩ = some vx := fun P => by rw [hvx]; have := (P.h.cell (p := ⟨b1, o1 + k * 1 + 0, none⟩) (by assumption)).trans (r1 0 _ rfl); simpa using this
        have hI1 : ¬ K < (n : Int) := by omega
        have hI2 : (n : Int) ≤ K := by omega
        have hI3 : K - (n : Int) = (j : Int) := by omega
        have hwj : IntKind.i64.wrap (j : Int) = (j : Int) := by rw [IntKind.wrap_i64]; omega
        have hwK : IntKind.i64.wrap (K - (n : Int)) = (j : Int) := by rw [hI3, hwj]
        have hD1 : decide (K < (n : Int)) = false := decide_eq_false hI1
        have hD2 : decide ((n : Int) ≤ K) = true := decide_eq_true hI2
        have HMK : Hid (∀ P : Bel wr, Calls Tryz.prog 69 #[.int .i64 700000, .int .i64 (j : Int)] P.W fun e w'' => e = .returned vx ∧ ∃ q : Bel wr, w'' = q.W) := fun P => by
          rw [hvx]
          exact Bel.same P (mark60 j (by omega) P.W)
        have HSM : Hid (∀ P : Bel wr, Calls Tryz.prog 149 #[vx, vx] P.W fun e w'' => e = .returned (.bool true) ∧ ∃ q : Bel wr, w'' = q.W) := fun P => by
          rw [hvx]
          exact Bel.same P (same62 _ P.W)
        clear r1 hvx hb hK hlt hk hkn hjk ej l1
        go_wp2_with fail
        refine wp_region_quiet_below (by kernel_rfl) (by kernel_rfl) ?_
        repeat (go_big_quiet_step (first | (go_at_call 149; refine unhide HSM _) | (go_at_call 69; refine unhide HMK _)))
        refine wpQuiet_nil ?_
        rintro _ ⟨P, rfl⟩
        clear x0
        go_wp2_with fail
        exact ⟨⟨k + 1, K + 1, by have := unhide HK; omega, by go_num, by have := unhide HK; omega, (unhide HB).trans (P.h.mono (unhide HB).size)⟩, by have := unhide HK; simp [intOf]; omega⟩
    · have hI : ¬ K < (n : Int) + 64 := by omega
      clear hb hK
      go_wp2_with fail
      go_ret
      exact ⟨rfl, unhide HB⟩
end Go.Proofs.YtfpbljfebjochaaGreatDoor
