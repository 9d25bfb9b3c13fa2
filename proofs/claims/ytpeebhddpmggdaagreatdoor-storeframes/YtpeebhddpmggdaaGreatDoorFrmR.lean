/- The document's low (53) and Frame (25). -/
import Derived.Test.YtpeebhddpmggdaaGreatDoorFrmA
namespace Go.Proofs.YtpeebhddpmggdaaGreatDoor
open Go Go.ChangeShapes Go.WideShapes Go.ChangeAt Go.RowKit
set_option linter.unusedVariables false
attribute [local go_sem] setCell_drewN alloc_drewN
theorem one_one (a : Int) : ∀ u ∈ ([.int .u8 a] : List Value), u.oneCell' = true := by
  intro u hu
  simp only [List.mem_cons, List.not_mem_nil, or_false] at hu
  rcases hu with rfl
  rfl
set_option maxRecDepth 100000 in
set_option maxHeartbeats 2000000 in
theorem low_any (V n : Nat) (hV : V < 4294967296) (hn : n ≤ 4) (w : World) : Calls Tryz.prog 53 #[.int .u32 (V : Int), .int .i64 (n : Int)] w fun e w' => ∃ v, e = .returned v ∧ w'.ownsRow w.heap.size 5 1 v n (bcells (lowB V) n) ∧ Below w.heap.size w w' := by
  obtain ⟨i0, hi, hz0, hz1, hz2⟩ := info_parts info5
  have HI := hide hi; have HZ0 := hide hz0; have HZ1 := hide hz1; have HZ2 := hide hz2
  clear hi hz0 hz1 hz2
  go_enter Tryz.func53, Tryz.ntmps53
  go_wp2_with fail
  go_loopw [0, 5, 6] (fun x v i wr => ∃ (j q : Nat), j ≤ n ∧ i = .int .i64 (j : Int) ∧ x = .int .u32 (q : Int) ∧ q = V / 256 ^ j ∧ wr.ownsRow w.heap.size 5 1 v j (bcells (lowB V) j) ∧ Below w.heap.size w wr) (fun _ _ i _ => n - (intOf i).toNat)
  case atStart => exact ⟨0, V, by omega, rfl, rfl, by simp, World.ownsRow_nil _ _ _ _, Below.refl _ _⟩
  case round =>
    obtain ⟨j, q, hj, rfl, rfl, hq, hown, hbel⟩ := hrel
    have OWN := hide hown
    have BEL := hide hbel
    have hsz := hbel.size
    have HQ := hide hq
    have hq32 : q < 4294967296 := by rw [hq]; exact Nat.lt_of_le_of_lt (Nat.div_le_self _ _) hV
    clear hown hbel hq
    by_cases hlt : j < n
    · have hI : (j : Int) < (n : Int) := by omega
      go_wp2_with (at_builtin; refine wpList_append_own _ rfl _ _ 27 rfl w.heap.size 5 i0 (.int .u8 0) 1 1 Tryz.underlying27 (unhide HI) (unhide HZ0) (unhide HZ1) (unhide HZ2) rfl (by decide) _ _ _ rfl ((unhide OWN).alloc _) ⟨wr.heap.size, 0, none⟩ 1 1 [.int .u8 ((q : Int) % 256)] rfl rfl (cell_one_new _ _ _) (one_one _) (by unfold maxLen; omega) (by omega) (by simp; omega) ?_; intro v1 w2 hown1 hgrow1 _; have B2 := hide (Below.grown (bal (unhide BEL) _) hgrow1 (by simp; omega) (fun k hk => ((unhide OWN).lt k hk).1)); have O2 := hide hown1; clear hown1 hgrow1)
      refine ⟨⟨j + 1, q / 256, by omega, by go_num, by rw [show ((q / 256 : Nat) : Int) = (q : Int) / 256 by omega], ?_, ?_, unhide B2⟩, by simp [intOf]; omega⟩
      · rw [unhide HQ, Nat.pow_succ, Nat.div_div_eq_div_mul]
      · have h := unhide O2
        rw [show (q : Int) % 256 = ((lowB V j : Nat) : Int) from by unfold lowB; rw [← unhide HQ]; omega, ← bcells_succ] at h
        exact h
    · have hjn : j = n := by omega
      subst hjn
      have hI : ¬ (j : Int) < (j : Int) := by omega
      go_wp2_with fail
      go_ret
      exact ⟨_, rfl, unhide OWN, unhide BEL⟩
theorem low_at (z : Int) (V n : Nat) (hz : z = (V : Int)) (hV : V < 4294967296) (k : Int) (hk : k = (n : Int)) (hn : n ≤ 4) (w : World) : Calls Tryz.prog 53 #[.int .u32 z, .int .i64 k] w fun e w' => ∃ v, e = .returned v ∧ w'.ownsRow w.heap.size 5 1 v n (bcells (lowB V) n) ∧ Below w.heap.size w w' := by
  rw [hz, hk]
  exact low_any V n hV hn w
theorem own_open {w : World} {B n : Nat} {v : Value} {xs : List Value} (h : w.ownsRow B 5 1 v n xs) (hn : 0 < n) : ∃ g c, v = .slice (some ⟨g, 0, none⟩) n c := by
  rcases h.2 with ⟨_, h0⟩ | ⟨g, c, cur, hv, _⟩
  · omega
  · exact ⟨g, c, hv⟩
theorem own_news {w : World} {B n g c : Nat} {f : Nat → Nat} (h : w.ownsRow B 5 1 (.slice (some ⟨g, 0, none⟩) n c) n (bcells f n)) : ∀ j u, (bcells f n)[j]? = some u → w.cell? ((⟨g, 0, none⟩ : Addr).add j) = some u := by
  intro j u hj
  obtain ⟨h1, h2⟩ := bcells_get' hj
  rw [Addr.add_mid, Nat.zero_add, h.cellAt j (by omega), hj]
set_option maxRecDepth 100000 in
set_option maxHeartbeats 2000000 in
theorem rframe_long (a0 : Option Addr) (n cap : Nat) (hn : 2048 < n) (w : World) : Calls Tryz.prog 25 #[.slice a0 n cap] w fun e w' => e = .returned (.tuple #[.slice none 0 0, .int .i64 3]) ∧ w' = w := by
  have h0 : (2048 : Int) < (n : Int) := by omega
  clear hn
  go_enter Tryz.func25, Tryz.ntmps25
  go_wp2_with fail
  go_ret2
  exact ⟨rfl, rfl⟩
set_option maxRecDepth 100000 in
set_option maxHeartbeats 4000000 in
theorem rframe_some (f : Nat → Nat) (hf : Hid (∀ k, f k < 256)) (b off n cap : Nat) (hn : n ≤ 2048) (w : World) (hb : 0 < n → b < w.heap.size) (hc : Hid (∀ k, k < n → w.cell? ⟨b, off + k, none⟩ = some (.int .u8 (f k : Int)))) :
    Calls Tryz.prog 25 #[.slice (some ⟨b, off, none⟩) n cap] w fun e w' => FOut f n w e w' := by
  obtain ⟨i0, hi, hz0, hz1, hz2⟩ := info_parts info5
  have HI := hide hi; have HZ0 := hide hz0; have HZ1 := hide hz1; have HZ2 := hide hz2
  have h0 : ¬ (2048 : Int) < (n : Int) := by omega
  clear hi hz0 hz1 hz2
  go_enter Tryz.func25, Tryz.ntmps25
  go_wp2_with fail
  refine (low_at _ n 2 rfl (by omega) _ rfl (by omega) w).mono ?_
  rintro e w1 ⟨v1, rfl, ho1, hb1⟩
  obtain ⟨g1, c1, rfl⟩ := own_open ho1 (by omega)
  have O1 := hide ho1
  have B1 := hide hb1
  have s1 := hb1.size
  clear ho1 hb1
  go_wp2_with (at_builtin; refine wpList_append_own _ rfl _ _ 27 rfl w.heap.size 5 i0 (.int .u8 0) 1 1 Tryz.underlying27 (unhide HI) (unhide HZ0) (unhide HZ1) (unhide HZ2) rfl (by decide) _ _ _ rfl (World.ownsRow_nil _ _ _ _) ⟨g1, 0, none⟩ 2 c1 (bcells (lowB n) 2) rfl (bcells_len _ _) (own_news (unhide O1)) (bcells_one _ _) (by unfold maxLen; omega) (by omega) s1 ?_; intro v2 w2 hown2 hgrow2 _; have O2 := hide hown2; have B2 := hide (Below.grown (unhide B1) hgrow2 s1 (by intro k hk; change none = some k at hk; cases hk)); have s2 := (unhide B2).size; clear hown2 hgrow2)
  refine (low_at (65535 - (n : Int)) (65535 - n) 2 (by omega) (by omega) 2 rfl (by omega) w2).mono ?_
  rintro e w3 ⟨v3, rfl, ho3, hb3⟩
  obtain ⟨g3, c3, rfl⟩ := own_open ho3 (by omega)
  have O3 := hide ho3
  have B3 := hide (step_below (unhide B2) (Nat.le_refl _) hb3)
  have P3 := hide (own_below (unhide O2) hb3)
  have s3 := (unhide B3).size
  clear ho3 hb3
  go_wp2_with (at_builtin; refine wpList_append_own _ rfl _ _ 27 rfl w.heap.size 5 i0 (.int .u8 0) 1 1 Tryz.underlying27 (unhide HI) (unhide HZ0) (unhide HZ1) (unhide HZ2) rfl (by decide) _ _ _ rfl (unhide P3) ⟨g3, 0, none⟩ 2 c3 (bcells (lowB (65535 - n)) 2) rfl (bcells_len _ _) (own_news (unhide O3)) (bcells_one _ _) (by unfold maxLen; omega) (by omega) s3 ?_; intro v4 w4 hown4 hgrow4 _; have O4 := hide hown4; have B4 := hide (Below.grown (unhide B3) hgrow4 s3 (fun j hj => ((unhide P3).lt j hj).1)); have s4 := (unhide B4).size; clear hown4 hgrow4)
  have hc4 := hide (fun j (hj : j < n) => (unhide B4).cell (p := ⟨b, off + j, none⟩) (hb (by omega)) |>.trans (unhide hc j hj))
  refine (sum_any f hf b off n cap (by omega) w4 hc4).mono ?_
  rintro e w5 ⟨rfl, n5, hw⟩
  have D5 := hide (show Below w4.heap.size w4 w5 from by rw [hw]; exact below_drewN (Below.refl _ _) n5)
  clear hw
  have B5 := hide (step_below (unhide B4) (Nat.le_refl _) (unhide D5))
  have P5 := hide (own_below (unhide O4) (unhide D5))
  go_wp2_with fail
  refine (low_at _ (crc f n) 4 rfl (crc_lt f (unhide hf) n) 4 rfl (by omega) w5).mono ?_
  rintro e w6 ⟨v6, rfl, ho6, hb6⟩
  obtain ⟨g6, c6, rfl⟩ := own_open ho6 (by omega)
  have O6 := hide ho6
  have B6 := hide (step_below (unhide B5) (Nat.le_refl _) hb6)
  have P6 := hide (own_below (unhide P5) hb6)
  have s6 := (unhide B6).size
  clear ho6 hb6
  go_wp2_with (first | (at_builtin; refine wpList_append_own _ rfl _ _ 27 rfl w.heap.size 5 i0 (.int .u8 0) 1 1 Tryz.underlying27 (unhide HI) (unhide HZ0) (unhide HZ1) (unhide HZ2) rfl (by decide) _ _ _ rfl (unhide P6) ⟨g6, 0, none⟩ 4 c6 (bcells (lowB (crc f n)) 4) rfl (bcells_len _ _) (own_news (unhide O6)) (bcells_one _ _) (by unfold maxLen; omega) (by omega) s6 ?_; intro v7 w7 hown7 hgrow7 _; have O7 := hide hown7; have B7 := hide (Below.grown (unhide B6) hgrow7 s6 (fun j hj => ((unhide P6).lt j hj).1)); have s7 := (unhide B7).size; clear hown7 hgrow7; have hc7 := hide (fun j (hj : j < n) => (unhide B7).cell (p := ⟨b, off + j, none⟩) (hb (by omega)) |>.trans (unhide hc j hj))) | (at_builtin; refine wpList_append_own _ rfl _ _ 27 rfl w.heap.size 5 i0 (.int .u8 0) 1 1 Tryz.underlying27 (unhide HI) (unhide HZ0) (unhide HZ1) (unhide HZ2) rfl (by decide) _ _ _ rfl (unhide O7) ⟨b, off, none⟩ n cap (bcells f n) rfl (by rw [bcells_len]; omega) (fun j u hj => by obtain ⟨h1, h2⟩ := bcells_get' hj; rw [h2, Addr.add_mid]; exact unhide hc7 j h1) (bcells_one _ _) (by unfold maxLen; omega) (by omega) s7 ?_; intro v8 w8 hown8 hgrow8 _; have O8 := hide hown8; have B8 := hide (Below.grown (unhide B7) hgrow8 s7 (fun j hj => ((unhide O7).lt j hj).1)); clear hown8 hgrow8))
  go_ret2
  refine ⟨fun h => by omega, fun _ => ⟨v8, rfl, ?_⟩, unhide B8⟩
  have h := unhide O8
  rw [List.nil_append, bcells_cat, bcells_cat, bcells_cat, show 0 + 2 + 2 + 4 + n = 8 + n by omega] at h
  exact h
set_option maxHeartbeats 1000000 in
theorem sum_none (f : Nat → Nat) (w : World) : Calls Tryz.prog 54 #[.slice none 0 0] w fun e w' => e = .returned (.int .u32 (crc f 0 : Int)) ∧ ∃ n, w' = w.drewN n := by
  have hlast : bits .xor .u32 4294967295 4294967295 = 0 := by decide
  rw [crc_zero]
  go_enter Tryz.func54, Tryz.ntmps54
  go_wp2_with fail
  go_loopw [3, 4] (fun s i wr => i = .int .i64 0 ∧ s = .int .u32 4294967295 ∧ wr = w) (fun _ i _ => 0)
  case atStart => exact ⟨rfl, rfl, rfl⟩
  case round =>
    obtain ⟨rfl, rfl, rfl⟩ := hrel
    go_wp2_with fail
    go_ret
    exact ⟨rfl, 0, rfl⟩
set_option maxRecDepth 100000 in
set_option maxHeartbeats 4000000 in
theorem rframe_none (f : Nat → Nat) (hf : Hid (∀ k, f k < 256)) (w : World) :
    Calls Tryz.prog 25 #[.slice none 0 0] w fun e w' => FOut f 0 w e w' := by
  obtain ⟨i0, hi, hz0, hz1, hz2⟩ := info_parts info5
  have HI := hide hi; have HZ0 := hide hz0; have HZ1 := hide hz1; have HZ2 := hide hz2
  clear hi hz0 hz1 hz2
  go_enter Tryz.func25, Tryz.ntmps25
  go_wp2_with fail
  refine (low_at 0 0 2 rfl (by omega) 2 rfl (by omega) w).mono ?_
  rintro e w1 ⟨v1, rfl, ho1, hb1⟩
  obtain ⟨g1, c1, rfl⟩ := own_open ho1 (by omega)
  have O1 := hide ho1
  have B1 := hide hb1
  have s1 := hb1.size
  clear ho1 hb1
  go_wp2_with (at_builtin; refine wpList_append_own _ rfl _ _ 27 rfl w.heap.size 5 i0 (.int .u8 0) 1 1 Tryz.underlying27 (unhide HI) (unhide HZ0) (unhide HZ1) (unhide HZ2) rfl (by decide) _ _ _ rfl (World.ownsRow_nil _ _ _ _) ⟨g1, 0, none⟩ 2 c1 (bcells (lowB 0) 2) rfl (bcells_len _ _) (own_news (unhide O1)) (bcells_one _ _) (by unfold maxLen; omega) (by omega) s1 ?_; intro v2 w2 hown2 hgrow2 _; have O2 := hide hown2; have B2 := hide (Below.grown (unhide B1) hgrow2 s1 (by intro k hk; change none = some k at hk; cases hk)); have s2 := (unhide B2).size; clear hown2 hgrow2)
  refine (low_at 65535 65535 2 rfl (by omega) 2 rfl (by omega) w2).mono ?_
  rintro e w3 ⟨v3, rfl, ho3, hb3⟩
  obtain ⟨g3, c3, rfl⟩ := own_open ho3 (by omega)
  have O3 := hide ho3
  have B3 := hide (step_below (unhide B2) (Nat.le_refl _) hb3)
  have P3 := hide (own_below (unhide O2) hb3)
  have s3 := (unhide B3).size
  clear ho3 hb3
  go_wp2_with (at_builtin; refine wpList_append_own _ rfl _ _ 27 rfl w.heap.size 5 i0 (.int .u8 0) 1 1 Tryz.underlying27 (unhide HI) (unhide HZ0) (unhide HZ1) (unhide HZ2) rfl (by decide) _ _ _ rfl (unhide P3) ⟨g3, 0, none⟩ 2 c3 (bcells (lowB 65535) 2) rfl (bcells_len _ _) (own_news (unhide O3)) (bcells_one _ _) (by unfold maxLen; omega) (by omega) s3 ?_; intro v4 w4 hown4 hgrow4 _; have O4 := hide hown4; have B4 := hide (Below.grown (unhide B3) hgrow4 s3 (fun j hj => ((unhide P3).lt j hj).1)); have s4 := (unhide B4).size; clear hown4 hgrow4)
  refine (sum_none f w4).mono ?_
  rintro e w5 ⟨rfl, n5, hw⟩
  have D5 := hide (show Below w4.heap.size w4 w5 from by rw [hw]; exact below_drewN (Below.refl _ _) n5)
  clear hw
  have B5 := hide (step_below (unhide B4) (Nat.le_refl _) (unhide D5))
  have P5 := hide (own_below (unhide O4) (unhide D5))
  go_wp2_with fail
  refine (low_at _ (crc f 0) 4 rfl (crc_lt f (unhide hf) 0) 4 rfl (by omega) w5).mono ?_
  rintro e w6 ⟨v6, rfl, ho6, hb6⟩
  obtain ⟨g6, c6, rfl⟩ := own_open ho6 (by omega)
  have O6 := hide ho6
  have B6 := hide (step_below (unhide B5) (Nat.le_refl _) hb6)
  have P6 := hide (own_below (unhide P5) hb6)
  have s6 := (unhide B6).size
  clear ho6 hb6
  go_wp2_with (first | (at_builtin; refine wpList_append_own _ rfl _ _ 27 rfl w.heap.size 5 i0 (.int .u8 0) 1 1 Tryz.underlying27 (unhide HI) (unhide HZ0) (unhide HZ1) (unhide HZ2) rfl (by decide) _ _ _ rfl (unhide P6) ⟨g6, 0, none⟩ 4 c6 (bcells (lowB (crc f 0)) 4) rfl (bcells_len _ _) (own_news (unhide O6)) (bcells_one _ _) (by unfold maxLen; omega) (by omega) s6 ?_; intro v7 w7 hown7 hgrow7 _; have O7 := hide hown7; have B7 := hide (Below.grown (unhide B6) hgrow7 s6 (fun j hj => ((unhide P6).lt j hj).1)); have s7 := (unhide B7).size; clear hown7 hgrow7) | (at_builtin; refine wpList_append_own_none rfl _ _ 27 rfl w.heap.size 5 i0 1 Tryz.underlying27 (unhide HI) _ _ _ rfl (unhide O7) rfl ?_))
  go_ret2
  refine ⟨fun h => by omega, fun _ => ⟨v7, rfl, ?_⟩, unhide B7⟩
  have h := unhide O7
  rw [List.nil_append, bcells_cat, bcells_cat] at h
  rw [bcells_ext (f := frB f 0) (g := cat (cat (lowB 0) 2 (lowB 65535)) (2 + 2) (lowB (crc f 0))) (8 + 0) (fun i hi => cat_lt (by omega))]
  exact h
theorem rframe_any {f : Nat → Nat} {v : Value} {n : Nat} {w : World} (hf : ∀ k, f k < 256) (h : BLies f v n w) : Calls Tryz.prog 25 #[v] w fun e w' => FOut f n w e w' := by
  rcases h with ⟨rfl, rfl⟩ | ⟨b, off, cap, rfl, h2, h3⟩
  · exact rframe_none f (hide hf) w
  · by_cases hn : n ≤ 2048
    · exact rframe_some f (hide hf) b off n cap hn w h2 (hide h3)
    · refine (rframe_long _ n cap (by omega) w).mono ?_
      rintro e w' ⟨rfl, rfl⟩
      exact ⟨fun _ => rfl, fun h => absurd h hn, Below.refl _ _⟩
end Go.Proofs.YtpeebhddpmggdaaGreatDoor
