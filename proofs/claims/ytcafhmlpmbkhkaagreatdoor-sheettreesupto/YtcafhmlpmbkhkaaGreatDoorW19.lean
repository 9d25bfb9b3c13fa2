import Derived.Test.YtcafhmlpmbkhkaaGreatDoorW18
/- The document's grid (56). -/
namespace Go.Proofs.YtcafhmlpmbkhkaaGreatDoor
open Go Go.Shelf Go.ChangeShapes Go.WideShapes Go.ChangeAt Go.RowKit Go.Maps
set_option linter.unusedVariables false
set_option linter.unusedSimpArgs false
/-- which columns stand right -/
def rgB (B : List Bool) (c : Nat) : Bool := B.getD c false
theorem slice_txt (s : Tx) (n : Nat) (hn : n ≤ s.length) (w : World) : (Instr.sliceAt 9 (.string (txB s)) none (some (.int .i64 (n : Int))) none).run Tryz.prog w = .ok (.string (txB (s.take n))) w := by
  have hz : (txB s).size = s.length := txB_len s
  rw [run_sliceAt_string w 9 _ _ _ _ Tryz.underlying9, run_slice_string_h w 9 _ Tryz.underlying9 .i64 (n : Int) (by omega) (by rw [hz]; omega)]
  congr 2
  apply ByteArray.ext
  simp [txB]
theorem index_txt (s : Tx) (k : Nat) (b : UInt8) (h : s[k]? = some b) (w : World) : (Instr.index 9 (.string (txB s)) (.int .i64 (k : Int))).run Tryz.prog w = .ok (.int .u8 (b.toNat : Int)) w := by
  have hk : k < s.length := by
    rcases Nat.lt_or_ge k s.length with h1 | h1
    · exact h1
    · rw [List.getElem?_eq_none h1] at h; cases h
  have hz : (txB s).size = s.length := txB_len s
  rw [run_index_string w 9 _ .i64 _ Tryz.underlying9, dif_pos ⟨by omega, by rw [hz]; omega⟩]
  rw [List.getElem?_eq_getElem hk] at h
  have hb : s[k] = b := Option.some.inj h
  subst hb
  rfl
theorem joinT_succ (right : Nat → Bool) (W : Nat → Nat) (r : List Tx) (k : Nat) : joinT right W r (k + 1) = joinT right W r k ++ cellT right W k (r.getD k []) := rfl
/-- what Grid hands back -/
def GridOut (w : World) (T : Tx) (e : Ending) (w' : World) : Prop := e = .returned (.string (txB T)) ∧ w' = w
set_option maxRecDepth 100000 in
set_option maxHeartbeats 8000000 in
theorem rgrid_any {w : World} {pr : Option Addr} {n cr : Nat} {R : List (List Tx)} (hn : n = R.length) (h : RdAt w pr R) {gr nb cb : Nat} {B : List Bool} (hB : B.length = nb) (hb : ∀ c q, B[c]? = some q → w.cell? ⟨gr, c, none⟩ = some (.bool q)) {N : Nat} (hN : ∀ r ∈ R, r.length ≤ N) (hN1 : N ≤ 1099511627776) (hnb : nb ≤ 1099511627776)
    {M : Nat} (hM : ∀ r ∈ R, ∀ x ∈ r, x.length ≤ M) (hM1 : M ≤ 1099511627776) (htot : (R.length + 1) * (N * (M + 2) + 1) ≤ 140737488355328) (hn1 : n ≤ 1099511627776) :
    Calls Tryz.prog 56 #[.slice pr n cr, .slice (some ⟨gr, 0, none⟩) nb cb] w (GridOut w (gridT (rgB B) R)) := by
  have hwm : ∀ c, wid R c ≤ M := fun c => wid_le fun r hr => by
    rw [List.getD_eq_getElem?_getD]
    rcases Nat.lt_or_ge c r.length with hc | hc
    · rw [List.getElem?_eq_getElem hc]
      exact hM r hr _ (List.getElem_mem hc)
    · rw [List.getElem?_eq_none hc]
      exact Nat.zero_le _
  have H := hide h; have HN := hide hn; have HB := hide hb; have HBN := hide hB; have HNN := hide hN; have HM := hide hM; have HWM := hide hwm; have HTOT := hide htot
  clear h hn hb hB hN hM hwm htot
  go_enter Tryz.func56, Tryz.ntmps56
  go_wp2_with fail
  go_loop [5, 6] (fun av iv => ∃ (k : Nat) (K : Int) (A : ByteArray), k ≤ n ∧ iv = .int .i64 K ∧ K = (k : Int) ∧ av = .string A ∧ Hid (A = txB (linesT (rgB B) (wid R) (R.take k)))) (fun _ iv => ((n : Int) - intOf iv).toNat)
  case atStart => exact ⟨0, 0, ⟨#[]⟩, by omega, rfl, rfl, rfl, rfl⟩
  case round =>
    obtain ⟨k, K, A, hk, rfl, hK, rfl, HA⟩ := hrel
    by_cases hlt : k < n
    · have hI : K < (n : Int) := by omega
      have hkR : k < R.length := by have := unhide HN; omega
      obtain ⟨r, hr⟩ : ∃ r, R[k]? = some r := ⟨R[k], List.getElem?_eq_getElem hkR⟩
      obtain ⟨gb, go, sp, sc, epr, q1, hx⟩ := unhide H k r hr
      subst epr
      obtain ⟨m, hm⟩ : ∃ m, m = r.length := ⟨_, rfl⟩
      rw [← hm] at q1
      have hK0 : 0 ≤ K := by omega
      have hKt : K.toNat = k := by omega
      have HK := hide hK
      have hrm := List.mem_of_getElem? hr
      have hmN : m ≤ N := by rw [hm]; exact unhide HNN r hrm
      have hjl : ∀ j, (joinT (rgB B) (wid R) r j).length ≤ j * (M + 2) := fun j => joinT_len _ _ _ M (fun c => wid_ge hrm c) (unhide HWM) j
      have hk2 : k * (N * (M + 2) + 1) + (N * (M + 2) + 1) ≤ 140737488355328 := by
        have h1 : (k + 1) * (N * (M + 2) + 1) ≤ (R.length + 1) * (N * (M + 2) + 1) := Nat.mul_le_mul_right _ (by omega)
        rw [Nat.add_mul, Nat.one_mul] at h1
        exact Nat.le_trans h1 (unhide HTOT)
      have hmM : m * (M + 2) ≤ N * (M + 2) := Nat.mul_le_mul_right _ hmN
      have hA : A.size ≤ k * (N * (M + 2) + 1) := by
        rw [unhide HA, txB_len]
        have := lines_len (right := rgB B) (R := R) (unhide HWM) (unhide HNN) (R.take k) (fun r hr => List.mem_of_mem_take hr)
        rwa [List.length_take, Nat.min_eq_left (by omega)] at this
      have HJL : Hid (∀ j, j ≤ m → (joinT (rgB B) (wid R) r j).length ≤ N * (M + 2)) := fun j hj => Nat.le_trans (hjl j) (Nat.le_trans (Nat.mul_le_mul_right _ hj) hmM)
      obtain ⟨Z, hZ⟩ : ∃ Z, Z = N * (M + 2) := ⟨_, rfl⟩
      have hZ1 : A.size + Z + 1 ≤ 140737488355328 := by omega
      rw [← hZ] at HJL
      have HT := hide (linesT_take (rgB B) (wid R) R k r hr)
      have HX := hide hx; have HMR := hide hm; have HRM := hide hrm
      have hm1 : m ≤ 1099511627776 := by omega
      clear hjl hk2 hmM hA hZ hr hx hm hrm hmN hkR hlt hK
      go_wp2_with fail
      go_loop [7, 8] (fun sv iv => ∃ (j : Nat) (J : Int) (s : ByteArray), j ≤ m ∧ iv = .int .i64 J ∧ J = (j : Int) ∧ sv = .string s ∧ Hid (s = txB (joinT (rgB B) (wid R) r j))) (fun _ iv => ((m : Int) - intOf iv).toNat)
      case atStart => exact ⟨0, 0, ⟨#[]⟩, by omega, rfl, rfl, rfl, rfl⟩
      case round =>
        obtain ⟨j, J, s, hj, rfl, hJ, rfl, HS⟩ := hrel
        by_cases hjl : j < m
        · have hJl : J < (m : Int) := by omega
          have hJ0 : 0 ≤ J := by omega
          have hJt : J.toNat = j := by omega
          obtain ⟨x, hxr⟩ : ∃ x, r[j]? = some x := ⟨r[j]'(by have := unhide HMR; omega), List.getElem?_eq_getElem _⟩
          obtain ⟨b, o, esp, q2⟩ := unhide HX j x hxr
          subst esp
          have hxM : x.length ≤ M := unhide HM r (unhide HRM) x (List.mem_of_getElem? hxr)
          have hxW : x.length ≤ wid R j := by
            have := wid_ge (unhide HRM) j
            rwa [List.getD_eq_getElem?_getD, hxr] at this
          have hwM := unhide HWM j
          have hcl : (joinT (rgB B) (wid R) r (j + 1)).length ≤ Z := unhide HJL (j + 1) (by omega)
          have hgd : r.getD j [] = x := by rw [List.getD_eq_getElem?_getD, hxr]; rfl
          rw [joinT_succ, hgd, List.length_append, cellT_len _ _ _ _ hxW] at hcl
          obtain ⟨X, hX⟩ : ∃ X, X = txB x := ⟨_, rfl⟩
          obtain ⟨q, hq⟩ : ∃ q, q = wid R j - x.length := ⟨_, rfl⟩
          obtain ⟨F, hF⟩ : ∃ F, F = txB (bl q) := ⟨_, rfl⟩
          obtain ⟨WJ, hWJ⟩ : ∃ z : Int, z = (wid R j : Int) := ⟨_, rfl⟩
          have hXs : X.size = x.length := by rw [hX, txB_len]
          have hFs : F.size = q := by rw [hF, txB_len, bl_len]
          have hss : s.size = (joinT (rgB B) (wid R) r j).length := by rw [unhide HS, txB_len]
          have hsz : s.size + (if j = 0 then 0 else 2) + (F.size + X.size) ≤ 140737488355328 := by split at hcl <;> split <;> omega
          have hX1 : X.size ≤ 1099511627776 := by omega
          have hF1 : F.size ≤ 1099511627776 := by omega
          have hs1 : s.size ≤ 140737488355328 := by omega
          have hzq : WJ - (X.size : Int) = (q : Int) := by omega
          have hzq2 : q ≤ 140737488355328 := by omega
          have D1 : Hid (Calls Tryz.prog 150 #[.slice (some ⟨gb, go, none⟩) n cr, .int .i64 J] w fun e w' => e = .returned (.int .i64 WJ) ∧ w' = w) := by
            rw [hJ, hWJ]
            exact wide_any (unhide HN) (unhide H) j (by omega) (unhide HM) hM1 (by omega)
          have D2 : Hid (Calls Tryz.prog 149 #[.int .i64 (WJ - (X.size : Int))] w fun e w' => e = .returned (.string F) ∧ w' = w) := by
            rw [hF]
            exact blanks_any _ q hzq hzq2 w
          have hJT : joinT (rgB B) (wid R) r (j + 1) = joinT (rgB B) (wid R) r j ++ cellT (rgB B) (wid R) j x := by rw [joinT_succ, hgd]
          have HJT := hide hJT; have HXE := hide hX; have HFE := hide hF; have HQ := hide hq; have HJ := hide hJ
          have hWJ0 : 0 ≤ WJ := by omega
          have hWJ1 : WJ ≤ 1099511627776 := by omega
          have hBj : (j < nb ∧ ∃ q, B[j]? = some q ∧ w.cell? ⟨gr, j, none⟩ = some (.bool q) ∧ rgB B j = q) ∨ (nb ≤ j ∧ rgB B j = false) := by
            rcases Nat.lt_or_ge j nb with h1 | h1
            · have h2 : j < B.length := by have := unhide HBN; omega
              exact .inl ⟨h1, B[j], List.getElem?_eq_getElem h2, unhide HB j _ (List.getElem?_eq_getElem h2), by simp [rgB, List.getD, List.getElem?_eq_getElem h2]⟩
            · exact .inr ⟨h1, by rw [rgB, List.getD_eq_getElem?_getD, List.getElem?_eq_none (by have := unhide HBN; omega)]; rfl⟩
          have hge : (X.size : Int) ≤ WJ := by omega
          rw [← hX] at q2
          clear hzq hzq2 hxr hxM hxW hwM hcl hgd hX hq hF hWJ hXs hFs hss hJT hJ hjl
          by_cases hj0 : j = 0
          · have HJ0 := hide hj0
            have hJp : ¬ J > 0 := by have := unhide HJ; omega
            have hsz3 : s.size + 0 + (F.size + X.size) ≤ 140737488355328 := by rwa [if_pos hj0] at hsz
            clear hsz hj0
            rcases hBj with ⟨h1, q9, hq9, hc9, hrg⟩ | ⟨h1, hrg⟩
            · have hJb : J < (nb : Int) := by have := unhide HJ; omega
              cases q9 with
              | true =>
                have HNEW : Hid (s ++ F ++ X = txB (joinT (rgB B) (wid R) r (j + 1))) := by
                  show _ = _
                  rw [unhide HJT, unhide HS, unhide HXE, unhide HFE]
                  rw [txB_app, txB_app]
                  unfold cellT
                  rw [if_pos (unhide HJ0), hrg, ← unhide HQ]
                  simp [List.append_assoc]
                have hsz2 : s.size + (F.size + X.size) ≤ 140737488355328 := by omega
                clear hrg
                go_wp2_with (first | (go_at_call 150; refine (unhide D1).mono ?_; rintro e w1 ⟨rfl, hw1⟩; rw [hw1]; clear hw1 w1) | (go_at_call 149; refine (unhide D2).mono ?_; rintro e w1 ⟨rfl, hw1⟩; rw [hw1]; clear hw1 w1))
                exact ⟨⟨j + 1, J + 1, _, by omega, by go_num, by have := unhide HJ; omega, rfl, unhide HNEW⟩, by simp [intOf]; omega⟩
              | false =>
                have HNEW : Hid (s ++ X ++ F = txB (joinT (rgB B) (wid R) r (j + 1))) := by
                  show _ = _
                  rw [unhide HJT, unhide HS, unhide HXE, unhide HFE]
                  rw [txB_app, txB_app]
                  unfold cellT
                  rw [if_pos (unhide HJ0), hrg, ← unhide HQ]
                  simp [List.append_assoc]
                have hsz2 : s.size + (F.size + X.size) ≤ 140737488355328 := by omega
                clear hrg
                go_wp2_with (first | (go_at_call 150; refine (unhide D1).mono ?_; rintro e w1 ⟨rfl, hw1⟩; rw [hw1]; clear hw1 w1) | (go_at_call 149; refine (unhide D2).mono ?_; rintro e w1 ⟨rfl, hw1⟩; rw [hw1]; clear hw1 w1))
                exact ⟨⟨j + 1, J + 1, _, by omega, by go_num, by have := unhide HJ; omega, rfl, unhide HNEW⟩, by simp [intOf]; omega⟩
            · have hJb : ¬ J < (nb : Int) := by have := unhide HJ; omega
              have HNEW : Hid (s ++ X ++ F = txB (joinT (rgB B) (wid R) r (j + 1))) := by
                show _ = _
                rw [unhide HJT, unhide HS, unhide HXE, unhide HFE]
                rw [txB_app, txB_app]
                unfold cellT
                rw [if_pos (unhide HJ0), hrg, ← unhide HQ]
                simp [List.append_assoc]
              have hsz2 : s.size + (F.size + X.size) ≤ 140737488355328 := by omega
              clear hrg
              go_wp2_with (first | (go_at_call 150; refine (unhide D1).mono ?_; rintro e w1 ⟨rfl, hw1⟩; rw [hw1]; clear hw1 w1) | (go_at_call 149; refine (unhide D2).mono ?_; rintro e w1 ⟨rfl, hw1⟩; rw [hw1]; clear hw1 w1))
              exact ⟨⟨j + 1, J + 1, _, by omega, by go_num, by have := unhide HJ; omega, rfl, unhide HNEW⟩, by simp [intOf]; omega⟩
          · have HJ0 := hide hj0
            have hJp : J > 0 := by have := unhide HJ; omega
            have hsz3 : s.size + 2 + (F.size + X.size) ≤ 140737488355328 := by rwa [if_neg hj0] at hsz
            clear hsz hj0
            rcases hBj with ⟨h1, q9, hq9, hc9, hrg⟩ | ⟨h1, hrg⟩
            · have hJb : J < (nb : Int) := by have := unhide HJ; omega
              cases q9 with
              | true =>
                have HNEW : Hid (s ++ ⟨#[32, 32]⟩ ++ F ++ X = txB (joinT (rgB B) (wid R) r (j + 1))) := by
                  show _ = _
                  rw [unhide HJT, unhide HS, unhide HXE, unhide HFE, show (⟨#[32, 32]⟩ : ByteArray) = txB (bl 2) from rfl]
                  rw [txB_app, txB_app, txB_app]
                  unfold cellT
                  rw [if_neg (unhide HJ0), hrg, ← unhide HQ]
                  simp [List.append_assoc]
                have hsz2 : s.size + 2 + (F.size + X.size) ≤ 140737488355328 := by omega
                clear hrg
                go_wp2_with (first | (go_at_call 150; refine (unhide D1).mono ?_; rintro e w1 ⟨rfl, hw1⟩; rw [hw1]; clear hw1 w1) | (go_at_call 149; refine (unhide D2).mono ?_; rintro e w1 ⟨rfl, hw1⟩; rw [hw1]; clear hw1 w1))
                exact ⟨⟨j + 1, J + 1, _, by omega, by go_num, by have := unhide HJ; omega, rfl, unhide HNEW⟩, by simp [intOf]; omega⟩
              | false =>
                have HNEW : Hid (s ++ ⟨#[32, 32]⟩ ++ X ++ F = txB (joinT (rgB B) (wid R) r (j + 1))) := by
                  show _ = _
                  rw [unhide HJT, unhide HS, unhide HXE, unhide HFE, show (⟨#[32, 32]⟩ : ByteArray) = txB (bl 2) from rfl]
                  rw [txB_app, txB_app, txB_app]
                  unfold cellT
                  rw [if_neg (unhide HJ0), hrg, ← unhide HQ]
                  simp [List.append_assoc]
                have hsz2 : s.size + 2 + (F.size + X.size) ≤ 140737488355328 := by omega
                clear hrg
                go_wp2_with (first | (go_at_call 150; refine (unhide D1).mono ?_; rintro e w1 ⟨rfl, hw1⟩; rw [hw1]; clear hw1 w1) | (go_at_call 149; refine (unhide D2).mono ?_; rintro e w1 ⟨rfl, hw1⟩; rw [hw1]; clear hw1 w1))
                exact ⟨⟨j + 1, J + 1, _, by omega, by go_num, by have := unhide HJ; omega, rfl, unhide HNEW⟩, by simp [intOf]; omega⟩
            · have hJb : ¬ J < (nb : Int) := by have := unhide HJ; omega
              have HNEW : Hid (s ++ ⟨#[32, 32]⟩ ++ X ++ F = txB (joinT (rgB B) (wid R) r (j + 1))) := by
                show _ = _
                rw [unhide HJT, unhide HS, unhide HXE, unhide HFE, show (⟨#[32, 32]⟩ : ByteArray) = txB (bl 2) from rfl]
                rw [txB_app, txB_app, txB_app]
                unfold cellT
                rw [if_neg (unhide HJ0), hrg, ← unhide HQ]
                simp [List.append_assoc]
              have hsz2 : s.size + 2 + (F.size + X.size) ≤ 140737488355328 := by omega
              clear hrg
              go_wp2_with (first | (go_at_call 150; refine (unhide D1).mono ?_; rintro e w1 ⟨rfl, hw1⟩; rw [hw1]; clear hw1 w1) | (go_at_call 149; refine (unhide D2).mono ?_; rintro e w1 ⟨rfl, hw1⟩; rw [hw1]; clear hw1 w1))
              exact ⟨⟨j + 1, J + 1, _, by omega, by go_num, by have := unhide HJ; omega, rfl, unhide HNEW⟩, by simp [intOf]; omega⟩
        · have hJl : ¬ J < (m : Int) := by omega
          obtain ⟨Jn, hJn⟩ : ∃ T, T = joinT (rgB B) (wid R) r m := ⟨_, rfl⟩
          have hjm : j = m := by omega
          have hs : s = txB Jn := by rw [unhide HS, hJn, hjm]
          have hsl : Jn.length ≤ Z := by rw [hJn]; exact unhide HJL m (Nat.le_refl _)
          obtain ⟨jn, hjn⟩ : ∃ j, j = Jn.length := ⟨_, rfl⟩
          have hz : s.size = jn := by rw [hs, txB_len, hjn]
          have hzI : (s.size : Int) = (jn : Int) := by rw [hz]
          have HSE := hide hs; have HJN := hide hJn; have HJM := hide hjn
          have hjn1 : jn ≤ Z := by omega
          have hsz1 : s.size ≤ 140737488355328 := by omega
          clear hs hJn hjn hsl hjm hJ hj hz
          go_wp2_with fail
          go_loop [11] (fun nv => ∃ (t : Nat) (T : Int), t ≤ jn ∧ nv = .int .i64 T ∧ T = (t : Int) ∧ Hid (∀ k, t ≤ k → k < jn → Jn[k]? = some 32)) (fun nv => (intOf nv).toNat)
          case atStart => exact ⟨jn, (jn : Int), Nat.le_refl _, by rw [← hzI], rfl, fun k h1 h2 => absurd h2 (by omega)⟩
          case round =>
            obtain ⟨t, T, ht, rfl, hT, HB1⟩ := hrel
            by_cases ht0 : t = 0
            · have hTp : ¬ T > 0 := by omega
              have hT0 : T = 0 := by omega
              have hst : strip Jn = Jn.take t := strip_end Jn t (by have := unhide HJM; omega) (Or.inl ht0) (fun k h1 h2 => unhide HB1 k h1 (by have := unhide HJM; omega))
              have hsl := slice_txt Jn t (by have := unhide HJM; omega) w
              rw [← unhide HSE, ← hT] at hsl
              obtain ⟨C, hC⟩ : ∃ C, C = txB (Jn.take t) := ⟨_, rfl⟩
              rw [← hC] at hsl
              have hCs : C.size ≤ Z := by rw [hC, txB_len, List.length_take]; omega
              have HE : Hid (A ++ C ++ ⟨#[10]⟩ = txB (linesT (rgB B) (wid R) (R.take (k + 1)))) := by
                show _ = _
                rw [unhide HT, unhide HA, hC, show (⟨#[10]⟩ : ByteArray) = txB [10] from rfl, txB_app, txB_app, ← hst]
                unfold lineT
                rw [← unhide HMR, ← unhide HJN]
              clear hst hC hT
              subst hT0
              clear ht0
              go_wp2_with fail
              exact ⟨⟨k + 1, K + 1, _, by have := unhide HK; omega, by go_num, by have := unhide HK; omega, rfl, unhide HE⟩, by have := unhide HK; simp [intOf]; omega⟩
            · have hTp : T > 0 := by omega
              obtain ⟨bb, hbb⟩ : ∃ b, Jn[t - 1]? = some b := ⟨Jn[t - 1]'(by have := unhide HJM; omega), List.getElem?_eq_getElem _⟩
              have hix := index_txt Jn (t - 1) bb hbb w
              rw [← unhide HSE, show ((t - 1 : Nat) : Int) = T - 1 by omega] at hix
              have hT1 : 1 ≤ T := by omega
              have hT2 : T ≤ 140737488355328 := by omega
              obtain ⟨bz, hbz⟩ : ∃ z : Int, z = (bb.toNat : Int) := ⟨_, rfl⟩
              rw [← hbz] at hix
              have hbz0 : 0 ≤ bz := by omega
              have hbz1 : bz ≤ 255 := by have := bb.toNat_lt; omega
              by_cases h32 : bz = 32
              · have HN1 : Hid (∀ k, t - 1 ≤ k → k < jn → Jn[k]? = some 32) := fun k h1 h2 => by
                  by_cases hkt : t ≤ k
                  · exact unhide HB1 k hkt h2
                  · have : k = t - 1 := by omega
                    rw [this, hbb]
                    congr 1
                    apply UInt8.toNat.inj
                    show bb.toNat = 32
                    omega
                subst h32
                have HT2 := hide hT
                clear hbb hbz hT
                go_wp2_with fail
                exact ⟨⟨t - 1, T - 1, by omega, by go_num, by have := unhide HT2; omega, unhide HN1⟩, by simp [intOf]; omega⟩
              · have hbe : (bz == 32) = false := beq_eq_false_iff_ne.2 h32
                have h0 : Jn[t - 1]? ≠ some 32 := by
                  rw [hbb]
                  intro e
                  have := Option.some.inj e
                  rw [this] at hbz
                  exact h32 hbz
                have hst : strip Jn = Jn.take t := strip_end Jn t (by have := unhide HJM; omega) (Or.inr h0) (fun k h1 h2 => unhide HB1 k h1 (by have := unhide HJM; omega))
                have hsl := slice_txt Jn t (by have := unhide HJM; omega) w
                rw [← unhide HSE, ← hT] at hsl
                obtain ⟨C, hC⟩ : ∃ C, C = txB (Jn.take t) := ⟨_, rfl⟩
                rw [← hC] at hsl
                have hCs : C.size ≤ Z := by rw [hC, txB_len, List.length_take]; omega
                have HE : Hid (A ++ C ++ ⟨#[10]⟩ = txB (linesT (rgB B) (wid R) (R.take (k + 1)))) := by
                  show _ = _
                  rw [unhide HT, unhide HA, hC, show (⟨#[10]⟩ : ByteArray) = txB [10] from rfl, txB_app, txB_app, ← hst]
                  unfold lineT
                  rw [← unhide HMR, ← unhide HJN]
                clear hst hC hT
                clear hbb hbz h0 ht0
                go_wp2_with fail
                exact ⟨⟨k + 1, K + 1, _, by have := unhide HK; omega, by go_num, by have := unhide HK; omega, rfl, unhide HE⟩, by have := unhide HK; simp [intOf]; omega⟩
    · have hI : ¬ K < (n : Int) := by omega
      have HE : Hid (A = txB (gridT (rgB B) R)) := by
        have h1 := unhide HA
        rw [List.take_of_length_le (by have := unhide HN; omega)] at h1
        exact h1
      clear hK
      go_wp2_with fail
      go_ret
      exact ⟨by rw [unhide HE]; rfl, rfl⟩
end Go.Proofs.YtcafhmlpmbkhkaaGreatDoor
