/- The keeper's marks (51, 127), RoomBytes (23), KeptBytes (26). -/
import Derived.Test.YtpeebhddpmggdaaGreatDoorFrmR
namespace Go.Proofs.YtpeebhddpmggdaaGreatDoor
open Go Go.ChangeShapes Go.WideShapes Go.ChangeAt Go.RowKit
set_option linter.unusedVariables false
attribute [local go_sem] setCell_drewN alloc_drewN
/-- the mark's word -/
def patW (id : Nat) : Nat := (id + 1) * 2654435761 % 4294967296
/-- a byte of the marks of a number -/
def patN (id k : Nat) : Nat := (patW id / 2 ^ (8 * (k % 4)) % 256) ^^^ (k / 4 % 256)
theorem patN_lt (id k : Nat) : patN id k < 256 := by
  unfold patN
  have e : (256 : Nat) = 2 ^ 8 := by decide
  rw [e]
  exact Nat.xor_lt_two_pow (Nat.mod_lt _ (by decide)) (Nat.mod_lt _ (by decide))
set_option maxRecDepth 100000 in
set_option maxHeartbeats 1000000 in
theorem pat_any (id k : Nat) (hid : id < 1000000) (hk : k < 9223372036854775808) (w : World) : Calls Tryz.prog 127 #[.int .i64 (id : Int), .int .i64 (k : Int)] w fun e w' => e = .returned (.int .u8 (patN id k : Int)) ∧ w' = w := by
  have e1 : bits .xor .u8 (((id : Int) + 1) * 2654435761 % 4294967296 / 2 ^ (8 * (k % 4)) % 256) ((k : Int) / 4 % 256) = ((patN id k : Nat) : Int) := by
    have h := u8_xor_nat (patW id / 2 ^ (8 * (k % 4)) % 256) (k / 4 % 256) (Nat.mod_lt _ (by decide)) (Nat.mod_lt _ (by decide))
    have c1 : ((patW id / 2 ^ (8 * (k % 4)) % 256 : Nat) : Int) = ((id : Int) + 1) * 2654435761 % 4294967296 / 2 ^ (8 * (k % 4)) % 256 := by
      simp only [patW, Int.natCast_emod, Int.natCast_ediv, Int.natCast_mul, Int.natCast_add, Int.natCast_pow]
      rfl
    have c2 : ((k / 4 % 256 : Nat) : Int) = (k : Int) / 4 % 256 := by omega
    rw [c1, c2] at h
    exact h
  go_enter Tryz.func127, Tryz.ntmps127
  go_wp2_with fail
  go_ret
  exact ⟨rfl, rfl⟩
set_option maxHeartbeats 1000000 in
theorem mark_any (id k : Nat) (hid : id < 1000000) (hk : k < 9223372036854775808) (w : World) : Calls Tryz.prog 51 #[.int .i64 (id : Int), .int .i64 (k : Int)] w fun e w' => e = .returned (.int .u8 (patN id k : Int)) ∧ w' = w := by
  have hp := patN_lt id k
  go_enter Tryz.func51, Tryz.ntmps51
  go_wp2_with fail
  refine (pat_any id k hid hk w).mono ?_
  rintro e w1 ⟨rfl, hw⟩
  rw [hw]
  clear hw
  go_wp2_with fail
  go_ret
  exact ⟨rfl, rfl⟩
theorem drew_two (w : World) (m n : Nat) : (w.drewN m).drewN n = w.drewN (m + n) := World.drewN_drewN w m n
/-- what RoomBytes hands back -/
def RoomOut (f : Nat → Nat) (n : Nat) (w : World) (e : Ending) (w' : World) : Prop :=
  ∃ g c, e = .returned (.slice (some ⟨g, 0, none⟩) (n + 64) c) ∧ w'.ownsRow w.heap.size 5 1 (.slice (some ⟨g, 0, none⟩) (n + 64) c) (n + 64) (bcells (cat f n (patN 700000)) (n + 64)) ∧ Below w.heap.size w w'
set_option maxRecDepth 100000 in
set_option maxHeartbeats 2000000 in
theorem room_some (f : Nat → Nat) (b off n cap : Nat) (hn : n ≤ 140737488351232) (w : World) (hb : 0 < n → b < w.heap.size) (hc : Hid (∀ k, k < n → w.cell? ⟨b, off + k, none⟩ = some (.int .u8 (f k : Int)))) :
    Calls Tryz.prog 23 #[.slice (some ⟨b, off, none⟩) n cap] w fun e w' => RoomOut f n w e w' := by
  obtain ⟨i0, hi, hz0, hz1, hz2⟩ := info_parts info5
  have HI := hide hi; have HZ0 := hide hz0; have HZ1 := hide hz1; have HZ2 := hide hz2
  clear hi hz0 hz1 hz2
  go_enter Tryz.func23, Tryz.ntmps23
  have hnl := hide (World.ownsRow_lit (base := w.heap.size) (e := 5) (size := 1) w #[] 0 (Nat.le_refl _) (by unfold maxLen; omega) rfl)
  have hc1 := hide (fun o j (hj : j < n) => (World.cell?_alloc_lt w o ⟨b, off + j, none⟩ (hb (by omega))).trans (unhide hc j hj))
  go_wp2_with (at_builtin; refine wpList_append_own _ rfl _ _ 27 rfl w.heap.size 5 i0 (.int .u8 0) 1 1 Tryz.underlying27 (unhide HI) (unhide HZ0) (unhide HZ1) (unhide HZ2) rfl (by decide) _ _ _ rfl (unhide hnl) ⟨b, off, none⟩ n cap (bcells f n) rfl (by rw [bcells_len]; omega) (fun j u hj => by obtain ⟨h1, h2⟩ := bcells_get' hj; rw [h2, Addr.add_mid]; exact unhide hc1 _ j h1) (bcells_one _ _) (by unfold maxLen; omega) (by omega) (by simp) ?_; intro v1 w1 hown1 hgrow1 _; have O1 := hide hown1; have B1 := hide (Below.grown (bal (Below.refl _ _) _) hgrow1 (by simp) (fun k hk => ((unhide hnl).lt k hk).1)); clear hown1 hgrow1)
  go_loopw [3, 4] (fun v i wr => ∃ j : Nat, j ≤ 64 ∧ i = .int .i64 (j : Int) ∧ wr.ownsRow w.heap.size 5 1 v (n + j) (bcells (cat f n (patN 700000)) (n + j)) ∧ Below w.heap.size w wr) (fun _ i _ => 64 - (intOf i).toNat)
  case atStart =>
    refine ⟨0, by omega, rfl, ?_, unhide B1⟩
    have h := unhide O1
    rw [List.nil_append, Nat.zero_add] at h
    rw [Nat.add_zero, bcells_ext n (fun i hi => cat_lt hi)]
    exact h
  case round =>
    obtain ⟨j, hj, rfl, hown, hbel⟩ := hrel
    have OWN := hide hown
    have BEL := hide hbel
    have hsz := hbel.size
    clear hown hbel O1 B1
    by_cases hlt : j < 64
    · have hI : (j : Int) < 64 := by omega
      go_wp2_with fail
      refine (mark_any 700000 j (by omega) (by omega) wr).mono ?_
      rintro e w2 ⟨rfl, hw⟩
      rw [hw]
      clear hw
      go_wp2_with (at_builtin; refine wpList_append_own _ rfl _ _ 27 rfl w.heap.size 5 i0 (.int .u8 0) 1 1 Tryz.underlying27 (unhide HI) (unhide HZ0) (unhide HZ1) (unhide HZ2) rfl (by decide) _ _ _ rfl ((unhide OWN).alloc _) ⟨wr.heap.size, 0, none⟩ 1 1 [.int .u8 (patN 700000 j : Int)] rfl rfl (cell_one_new _ _ _) (one_one _) (by unfold maxLen; omega) (by omega) (by simp; omega) ?_; intro v1 w2 hown1 hgrow1 _; have B2 := hide (Below.grown (bal (unhide BEL) _) hgrow1 (by simp; omega) (fun k hk => ((unhide OWN).lt k hk).1)); have O2 := hide hown1; clear hown1 hgrow1)
      refine ⟨⟨j + 1, by omega, by go_num, ?_, unhide B2⟩, by simp [intOf]; omega⟩
      have h := unhide O2
      rw [← cat_ge (f := f) (g := patN 700000) (n := n) j, ← bcells_succ] at h
      exact h
    · have hj64 : j = 64 := by omega
      subst hj64
      go_wp2_with fail
      go_ret
      obtain ⟨g, c, hv⟩ := own_open (unhide OWN) (by omega)
      subst hv
      exact ⟨g, c, rfl, unhide OWN, unhide BEL⟩
set_option maxRecDepth 100000 in
set_option maxHeartbeats 2000000 in
theorem room_none (f : Nat → Nat) (w : World) : Calls Tryz.prog 23 #[.slice none 0 0] w fun e w' => RoomOut f 0 w e w' := by
  obtain ⟨i0, hi, hz0, hz1, hz2⟩ := info_parts info5
  have HI := hide hi; have HZ0 := hide hz0; have HZ1 := hide hz1; have HZ2 := hide hz2
  clear hi hz0 hz1 hz2
  go_enter Tryz.func23, Tryz.ntmps23
  have hnl := hide (World.ownsRow_lit (base := w.heap.size) (e := 5) (size := 1) w #[] 0 (Nat.le_refl _) (by unfold maxLen; omega) rfl)
  go_wp2_with (at_builtin; refine wpList_append_own_none rfl _ _ 27 rfl w.heap.size 5 i0 1 Tryz.underlying27 (unhide HI) _ _ _ rfl (unhide hnl) rfl ?_)
  go_loopw [3, 4] (fun v i wr => ∃ j : Nat, j ≤ 64 ∧ i = .int .i64 (j : Int) ∧ wr.ownsRow w.heap.size 5 1 v (0 + j) (bcells (cat f 0 (patN 700000)) (0 + j)) ∧ Below w.heap.size w wr) (fun _ i _ => 64 - (intOf i).toNat)
  case atStart =>
    exact ⟨0, by omega, rfl, unhide hnl, bal (Below.refl _ _) _⟩
  case round =>
    obtain ⟨j, hj, rfl, hown, hbel⟩ := hrel
    have OWN := hide hown
    have BEL := hide hbel
    have hsz := hbel.size
    clear hown hbel
    by_cases hlt : j < 64
    · have hI : (j : Int) < 64 := by omega
      go_wp2_with fail
      refine (mark_any 700000 j (by omega) (by omega) wr).mono ?_
      rintro e w2 ⟨rfl, hw⟩
      rw [hw]
      clear hw
      go_wp2_with (at_builtin; refine wpList_append_own _ rfl _ _ 27 rfl w.heap.size 5 i0 (.int .u8 0) 1 1 Tryz.underlying27 (unhide HI) (unhide HZ0) (unhide HZ1) (unhide HZ2) rfl (by decide) _ _ _ rfl ((unhide OWN).alloc _) ⟨wr.heap.size, 0, none⟩ 1 1 [.int .u8 (patN 700000 j : Int)] rfl rfl (cell_one_new _ _ _) (one_one _) (by unfold maxLen; omega) (by omega) (by simp; omega) ?_; intro v1 w2 hown1 hgrow1 _; have B2 := hide (Below.grown (bal (unhide BEL) _) hgrow1 (by simp; omega) (fun k hk => ((unhide OWN).lt k hk).1)); have O2 := hide hown1; clear hown1 hgrow1)
      refine ⟨⟨j + 1, by omega, by go_num, ?_, unhide B2⟩, by simp [intOf]; omega⟩
      have h := unhide O2
      rw [← cat_ge (f := f) (g := patN 700000) (n := 0) j, ← bcells_succ] at h
      exact h
    · have hj64 : j = 64 := by omega
      subst hj64
      go_wp2_with fail
      go_ret
      obtain ⟨g, c, hv⟩ := own_open (unhide OWN) (by omega)
      subst hv
      exact ⟨g, c, rfl, unhide OWN, unhide BEL⟩
theorem room_any {f : Nat → Nat} {v : Value} {n : Nat} {w : World} (hn : n ≤ 140737488351232) (h : BLies f v n w) : Calls Tryz.prog 23 #[v] w fun e w' => RoomOut f n w e w' := by
  rcases h with ⟨rfl, rfl⟩ | ⟨b, off, cap, rfl, h2, h3⟩
  · exact room_none f w
  · exact room_some f b off n cap hn w h2 (hide h3)
set_option maxHeartbeats 1000000 in
theorem same8 (a : Int) (w : World) : Calls Tryz.prog 55 #[.int .u8 a, .int .u8 a] w fun e w' => e = .returned (.bool true) ∧ w' = w := by
  go_enter Tryz.func55, Tryz.ntmps55
  go_wp2_with fail
  go_ret
  exact ⟨by simp, rfl⟩
set_option maxRecDepth 100000 in
set_option maxHeartbeats 2000000 in
theorem kept_some (f : Nat → Nat) (b off n cap : Nat) (hn : n ≤ 140737488351232) (g c : Nat) (w : World) (hc : Hid (∀ k, k < n → w.cell? ⟨b, off + k, none⟩ = some (.int .u8 (f k : Int))))
    (hg : Hid (∀ k, k < n + 64 → w.cell? ⟨g, k, none⟩ = some (.int .u8 (cat f n (patN 700000) k : Int)))) :
    Calls Tryz.prog 26 #[.slice (some ⟨g, 0, none⟩) (n + 64) c, .slice (some ⟨b, off, none⟩) n cap] w fun e w' => e = .returned (.bool true) ∧ ∃ m, w' = w.drewN m := by
  go_enter Tryz.func26, Tryz.ntmps26
  go_wp2_with fail
  go_loopw [5] (fun i wr => ∃ (k m : Nat), k ≤ n + 64 ∧ i = .int .i64 (k : Int) ∧ wr = w.drewN m) (fun i _ => n + 64 - (intOf i).toNat)
  case atStart => exact ⟨0, 0, by omega, rfl, rfl⟩
  case round =>
    obtain ⟨k, m, hk, rfl, hw⟩ := hrel
    have HW := hide hw
    have hI0 : (0 : Int) ≤ (k : Int) := by omega
    by_cases hlt : k < n + 64
    · have h1 : wr.cell? ⟨g, k, none⟩ = some (.int .u8 (cat f n (patN 700000) k : Int)) := by rw [hw]; exact unhide hg k hlt
      have hI : (k : Int) < (n : Int) + 64 := by omega
      by_cases hkn : k < n
      · have h2 : wr.cell? ⟨b, off + k, none⟩ = some (.int .u8 (f k : Int)) := by rw [hw]; exact unhide hc k hkn
        rw [cat_lt hkn] at h1
        have hI1 : (k : Int) < (n : Int) := by omega
        have hI2 : ¬ (n : Int) ≤ (k : Int) := by omega
        have hN2 : ¬ n ≤ k := by omega
        have hD2 : decide (n ≤ k) = false := decide_eq_false hN2
        clear hw hc hg
        go_wp2_with fail
        go_quiet (first | (go_at_call 55; refine Calls.quiet_of_same (same8 _ _)))
        go_wp2_with fail
        go_roundw
        case rel => exact ⟨k + 1, m + nq, by omega, by go_num, by rw [unhide HW]; exact drew_two _ _ _⟩
        case measure => simp [intOf]; omega
      · obtain ⟨j, hjk⟩ : ∃ j, k = n + j := ⟨k - n, by omega⟩
        rw [hjk, cat_ge] at h1
        rw [← hjk] at h1
        obtain ⟨K, hK⟩ : ∃ K : Int, (k : Int) = K := ⟨_, rfl⟩
        have hKn : K.toNat = k := by omega
        have hI1 : ¬ K < (n : Int) := by omega
        have hI2 : (n : Int) ≤ K := by omega
        have hI3 : K - (n : Int) = (j : Int) := by omega
        have hD1 : decide (K < (n : Int)) = false := decide_eq_false hI1
        have hD2 : decide ((n : Int) ≤ K) = true := decide_eq_true hI2
        rw [hK] at hI hI0 ⊢
        have HK := hide hK
        have hj64 : j < 64 := by omega
        clear hK hw hc hg hjk hkn hlt hk
        go_wp2_with fail
        go_quiet (first | (go_at_call 55; refine Calls.quiet_of_same (same8 _ _)) | (go_at_call 51; refine Calls.quiet_of_same (mark_any 700000 j (by omega) (by omega) _)))
        go_wp2_with fail
        go_roundw
        case rel => exact ⟨k + 1, m + nq, by have := unhide HK; omega, by have := unhide HK; go_num, by rw [unhide HW]; exact drew_two _ _ _⟩
        case measure => have := unhide HK; simp [intOf]; omega
    · have hkn : k = n + 64 := by omega
      subst hkn
      have hI : ¬ ((n + 64 : Nat) : Int) < (n : Int) + 64 := by omega
      clear hw
      go_wp2_with fail
      go_ret
      exact ⟨rfl, m, unhide HW⟩
set_option maxRecDepth 100000 in
set_option maxHeartbeats 2000000 in
theorem kept_none (f : Nat → Nat) (g c : Nat) (w : World) (hg : Hid (∀ k, k < 0 + 64 → w.cell? ⟨g, k, none⟩ = some (.int .u8 (cat f 0 (patN 700000) k : Int)))) :
    Calls Tryz.prog 26 #[.slice (some ⟨g, 0, none⟩) (0 + 64) c, .slice none 0 0] w fun e w' => e = .returned (.bool true) ∧ ∃ m, w' = w.drewN m := by
  go_enter Tryz.func26, Tryz.ntmps26
  go_wp2_with fail
  go_loopw [5] (fun i wr => ∃ (k m : Nat), k ≤ 64 ∧ i = .int .i64 (k : Int) ∧ wr = w.drewN m) (fun i _ => 64 - (intOf i).toNat)
  case atStart => exact ⟨0, 0, by omega, rfl, rfl⟩
  case round =>
    obtain ⟨k, m, hk, rfl, hw⟩ := hrel
    have HW := hide hw
    have hI0 : (0 : Int) ≤ (k : Int) := by omega
    by_cases hlt : k < 64
    · have h1 : wr.cell? ⟨g, k, none⟩ = some (.int .u8 (patN 700000 k : Int)) := by
        have e := cat_ge (f := f) (g := patN 700000) (n := 0) k
        rw [Nat.zero_add] at e
        rw [hw, ← e]
        exact unhide hg k (by omega)
      have hI : (k : Int) < 64 := by omega
      obtain ⟨K, hK⟩ : ∃ K : Int, (k : Int) = K := ⟨_, rfl⟩
      have hKn : K.toNat = k := by omega
      have hI1 : ¬ K < 0 := by omega
      have hI2 : (0 : Int) ≤ K := by omega
      have hD1 : decide (K < 0) = false := decide_eq_false hI1
      have hD2 : decide (0 ≤ K) = true := decide_eq_true hI2
      rw [hK] at hI hI0 ⊢
      have HK := hide hK
      have hmk := hide (show ∀ W, Calls Tryz.prog 51 #[.int .i64 700000, .int .i64 K] W fun e w' => e = .returned (.int .u8 (patN 700000 k : Int)) ∧ w' = W from fun W => by rw [← hK]; exact mark_any 700000 k (by omega) (by omega) W)
      clear hK hw hg hlt hk
      go_wp2_with fail
      go_quiet (first | (go_at_call 55; refine Calls.quiet_of_same (same8 _ _)) | (go_at_call 51; refine Calls.quiet_of_same (unhide hmk _)))
      go_wp2_with fail
      go_roundw
      case rel => exact ⟨k + 1, m + nq, by have := unhide HK; omega, by have := unhide HK; go_num, by rw [unhide HW]; exact drew_two _ _ _⟩
      case measure => have := unhide HK; simp [intOf]; omega
    · have hkn : k = 64 := by omega
      subst hkn
      clear hw
      go_wp2_with fail
      go_ret
      exact ⟨rfl, m, unhide HW⟩
theorem kept_any {f : Nat → Nat} {v : Value} {n : Nat} {w : World} (hn : n ≤ 140737488351232) (h : BLies f v n w) (g c : Nat) (hg : ∀ k, k < n + 64 → w.cell? ⟨g, k, none⟩ = some (.int .u8 (cat f n (patN 700000) k : Int))) :
    Calls Tryz.prog 26 #[.slice (some ⟨g, 0, none⟩) (n + 64) c, v] w fun e w' => e = .returned (.bool true) ∧ ∃ m, w' = w.drewN m := by
  rcases h with ⟨rfl, rfl⟩ | ⟨b, off, cap, rfl, h2, h3⟩
  · exact kept_none f g c w (hide hg)
  · exact kept_some f b off n cap hn g c w (hide h3) (hide hg)
end Go.Proofs.YtpeebhddpmggdaaGreatDoor
