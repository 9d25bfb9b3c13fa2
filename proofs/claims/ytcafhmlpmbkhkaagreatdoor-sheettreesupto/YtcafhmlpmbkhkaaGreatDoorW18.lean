import Derived.Test.YtcafhmlpmbkhkaaGreatDoorW06
/- The document's grid: digits 52, blanks 149, wide 150. -/
namespace Go.Proofs.YtcafhmlpmbkhkaaGreatDoor
open Go Go.Shelf Go.ChangeShapes Go.WideShapes Go.ChangeAt Go.RowKit Go.Maps
set_option linter.unusedVariables false
set_option linter.unusedSimpArgs false
theorem txB_app (a b : Tx) : txB a ++ txB b = txB (a ++ b) := by
  apply ByteArray.ext
  simp [txB, ByteArray.data_append]
set_option maxHeartbeats 1000000 in
theorem rdig_yes (d : Int) (w : World) (h : 0 ≤ d) (h' : d ≤ 6) : Calls Tryz.prog 52 #[.int .i64 d] w fun e w' => e = .returned (.bool true) ∧ w' = w := by
  go_enter Tryz.func52, Tryz.ntmps52
  go_wp2
  go_ret
  exact ⟨by simp, rfl⟩
set_option maxHeartbeats 1000000 in
theorem rdig_no (d : Int) (w : World) (h : d < 0 ∨ 6 < d) : Calls Tryz.prog 52 #[.int .i64 d] w fun e w' => e = .returned (.bool false) ∧ w' = w := by
  rcases h with h | h
  all_goals
    go_enter Tryz.func52, Tryz.ntmps52
    go_wp2
    go_ret
    exact ⟨by simp; try omega, rfl⟩
set_option maxRecDepth 100000 in
set_option maxHeartbeats 2000000 in
theorem blanks_any (z : Int) (n : Nat) (hz : z = (n : Int)) (hn : n ≤ 140737488355328) (w : World) : Calls Tryz.prog 149 #[.int .i64 z] w fun e w' => e = .returned (.string (txB (bl n))) ∧ w' = w := by
  have hz0 : z ≤ 140737488355328 := by omega
  have HZ := hide hz
  clear hz
  go_enter Tryz.func149, Tryz.ntmps149
  go_wp2_with fail
  go_loop [3, 4] (fun sv iv => ∃ (k : Nat) (K : Int) (s : ByteArray), k ≤ n ∧ iv = .int .i64 K ∧ K = (k : Int) ∧ sv = .string s ∧ Hid (s = txB (bl k))) (fun _ iv => (z - intOf iv).toNat)
  case atStart => exact ⟨0, 0, ⟨#[]⟩, by omega, rfl, rfl, rfl, rfl⟩
  case round =>
    obtain ⟨k, K, s, hk, rfl, hK, rfl, HS⟩ := hrel
    by_cases hlt : k < n
    · have hI : K < z := by have := unhide HZ; omega
      have hs : s.size ≤ 140737488355328 := by rw [unhide HS, txB_len, bl_len]; omega
      have HK := hide hK
      have HS1 : Hid (s ++ ⟨#[32]⟩ = txB (bl (k + 1))) := by
        show _ = _
        rw [unhide HS, ← bl_succ, ← txB_app]
        rfl
      have hK0 : 0 ≤ K := by omega
      clear hK hlt
      go_wp2_with fail
      exact ⟨⟨k + 1, K + 1, _, by have := unhide HK; have := unhide HZ; omega, by go_num, by have := unhide HK; omega, rfl, unhide HS1⟩, by simp [intOf]; omega⟩
    · have hI : ¬ K < z := by have := unhide HZ; omega
      have HS1 : Hid (s = txB (bl n)) := by rw [show n = k by omega]; exact unhide HS
      clear hK
      go_wp2_with fail
      go_ret
      exact ⟨by rw [unhide HS1]; rfl, rfl⟩
/-- lists of texts that lie somewhere -/
def RdAt (w : World) (pr : Option Addr) (R : List (List Tx)) : Prop :=
  ∀ (k : Nat) r, R[k]? = some r → ∃ gb go sp sc, pr = some ⟨gb, go, none⟩ ∧ w.cell? ⟨gb, go + k, none⟩ = some (.slice sp r.length sc) ∧ ∀ (j : Nat) x, r[j]? = some x → ∃ b o, sp = some ⟨b, o, none⟩ ∧ w.cell? ⟨b, o + j, none⟩ = some (.string (txB x))
set_option maxRecDepth 100000 in
set_option maxHeartbeats 4000000 in
theorem wide_any {w : World} {pr : Option Addr} {n cr : Nat} {R : List (List Tx)} (hn : n = R.length) (h : RdAt w pr R) (c : Nat) (hc : c ≤ 140737488355328) {M : Nat} (hM : ∀ r ∈ R, ∀ x ∈ r, x.length ≤ M) (hM1 : M ≤ 1099511627776) (hn1 : n ≤ 140737488355328) :
    Calls Tryz.prog 150 #[.slice pr n cr, .int .i64 (c : Int)] w fun e w' => e = .returned (.int .i64 (wid R c : Int)) ∧ w' = w := by
  have H := hide h; have HN := hide hn; have HM := hide hM
  clear h hn hM
  go_enter Tryz.func150, Tryz.ntmps150
  go_wp2_with fail
  go_loop [5, 6] (fun nv iv => ∃ (k : Nat) (K N : Int), k ≤ n ∧ iv = .int .i64 K ∧ K = (k : Int) ∧ nv = .int .i64 N ∧ Hid (N = (wid (R.take k) c : Int))) (fun _ iv => ((n : Int) - intOf iv).toNat)
  case atStart => exact ⟨0, 0, 0, by omega, rfl, rfl, rfl, rfl⟩
  case round =>
    obtain ⟨k, K, N, hk, rfl, hK, rfl, HW⟩ := hrel
    by_cases hlt : k < n
    · have hI : K < (n : Int) := by omega
      have hkR : k < R.length := by have := unhide HN; omega
      obtain ⟨r, hr⟩ : ∃ r, R[k]? = some r := ⟨R[k], List.getElem?_eq_getElem hkR⟩
      obtain ⟨gb, go, sp, sc, epr, q1, hx⟩ := unhide H k r hr
      subst epr
      obtain ⟨m, hm⟩ : ∃ m, m = r.length := ⟨_, rfl⟩
      rw [← hm] at q1
      have hK0 : 0 ≤ K := by omega
      have hKt : K.toNat = k := by omega
      have HK := hide hK
      have hst := wid_take R k r hr c
      have hrm := List.mem_of_getElem? hr
      by_cases hcm : c < m
      · obtain ⟨x, hxr⟩ : ∃ x, r[c]? = some x := ⟨r[c]'(by omega), List.getElem?_eq_getElem _⟩
        obtain ⟨b, o, esp, q2⟩ := hx c x hxr
        subst esp
        obtain ⟨X, hX⟩ : ∃ X, X = txB x := ⟨_, rfl⟩
        have hXl : X.size = x.length := by rw [hX, txB_len]
        have hxM : x.length ≤ M := unhide HM r hrm x (List.mem_of_getElem? hxr)
        rw [← hX] at q2
        rw [List.getD_eq_getElem?_getD, hxr] at hst
        have hst2 : wid (R.take (k + 1)) c = max (wid (R.take k) c) X.size := by rw [hst, hXl]; rfl
        have hX1 : X.size ≤ 1099511627776 := by omega
        have hcI : (c : Int) < (m : Int) := by omega
        have HST := hide hst2
        clear hst hst2 hX hXl hxM hxr hx hr hrm hm hK hkR hlt
        by_cases hg : (X.size : Int) > N
        · have HE : Hid ((X.size : Int) = (wid (R.take (k + 1)) c : Int)) := by have := unhide HST; have := unhide HW; show _ = _; omega
          go_wp2_with fail
          exact ⟨⟨k + 1, K + 1, _, by have := unhide HK; omega, by go_num, by have := unhide HK; omega, rfl, unhide HE⟩, by simp [intOf]; omega⟩
        · have HE : Hid (N = (wid (R.take (k + 1)) c : Int)) := by have := unhide HST; have := unhide HW; show _ = _; omega
          go_wp2_with fail
          exact ⟨⟨k + 1, K + 1, _, by have := unhide HK; omega, by go_num, by have := unhide HK; omega, rfl, unhide HE⟩, by simp [intOf]; omega⟩
      · rw [List.getD_eq_getElem?_getD, List.getElem?_eq_none (by omega)] at hst
        have HE : Hid (N = (wid (R.take (k + 1)) c : Int)) := by
          have := unhide HW
          have h2 : wid (R.take (k + 1)) c = wid (R.take k) c := by rw [hst]; simp
          show _ = _
          omega
        have hcI : ¬ (c : Int) < (m : Int) := by omega
        clear hst hx hr hrm hm hK hkR hlt
        go_wp2_with fail
        exact ⟨⟨k + 1, K + 1, _, by have := unhide HK; omega, by go_num, by have := unhide HK; omega, rfl, unhide HE⟩, by simp [intOf]; omega⟩
    · have hI : ¬ K < (n : Int) := by omega
      have HE : Hid (N = (wid R c : Int)) := by
        have h1 := unhide HW
        rw [List.take_of_length_le (by have := unhide HN; omega)] at h1
        exact h1
      clear hK
      go_wp2_with fail
      go_ret
      exact ⟨by rw [unhide HE]; rfl, rfl⟩
end Go.Proofs.YtcafhmlpmbkhkaaGreatDoor
