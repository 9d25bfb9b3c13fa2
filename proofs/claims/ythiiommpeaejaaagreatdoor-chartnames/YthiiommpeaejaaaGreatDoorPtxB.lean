/- A page of the keeper: shows (211). -/
import Derived.Test.YthiiommpeaejaaaGreatDoorPtxA
namespace Go.Proofs.YthiiommpeaejaaaGreatDoor
open Go Go.ChangeShapes Go.WideShapes Go.ChangeAt Go.RowKit Go.Sort
set_option linter.unusedVariables false
attribute [local go_sem] setCell_drewN alloc_drewN
/-- a page laid out in a block -/
structure PgAt (w : World) (b : Nat) (L G S : Value) (id : Nat) (d : Bool) : Prop where
  a0 : w.cell? ⟨b, 0, none⟩ = some L
  a1 : w.cell? ⟨b, 1, none⟩ = some G
  a2 : w.cell? ⟨b, 2, none⟩ = some S
  a3 : w.cell? ⟨b, 3, none⟩ = some (.int .i64 (id : Int))
  a4 : w.cell? ⟨b, 4, none⟩ = some (.bool d)
theorem PgAt.new (w : World) (L G S : Value) (id : Nat) (d : Bool) : PgAt (w.alloc (.cells #[L, G, S, .int .i64 (id : Int), .bool d] 68)) w.heap.size L G S id d := ⟨by simp, by simp, by simp, by simp, by simp⟩
theorem PgAt.drewN {w : World} {b id m : Nat} {L G S : Value} {d : Bool} (h : PgAt w b L G S id d) : PgAt (w.drewN m) b L G S id d := ⟨h.a0, h.a1, h.a2, h.a3, h.a4⟩
set_option maxRecDepth 100000 in
set_option maxHeartbeats 2000000 in
theorem shows_kept (f : Nat → ByteArray) (gb gc n cb cc id : Nat) (hn : n ≤ 4096) (w : World) (hb : 0 < n → gb < w.heap.size) (hb' : 0 < n → gc < w.heap.size) (hc : Hid (∀ k, k < n → w.cell? ⟨gb, k, none⟩ = some (.string (f k)))) (hd : Hid (∀ k, k < n → w.cell? ⟨gc, k, none⟩ = some (.string (f k)))) :
    Calls Tryz.prog 178 #[.agg #[.slice (some ⟨gb, 0, none⟩) n cb, .slice none 0 0, .slice (some ⟨gc, 0, none⟩) n cc, .int .i64 (id : Int), .bool false]] w fun e w' => e = .returned (.bool true) ∧ Below w.heap.size w w' := by
  have PG := hide (PgAt.new w (.slice (some ⟨gb, 0, none⟩) n cb) (.slice none 0 0) (.slice (some ⟨gc, 0, none⟩) n cc) id false)
  have hc0 := hide (fun o k (hk : k < n) => (World.cell?_alloc_lt w o ⟨gb, k, none⟩ (hb (by omega))).trans (unhide hc k hk))
  have hd0 := hide (fun o k (hk : k < n) => (World.cell?_alloc_lt w o ⟨gc, k, none⟩ (hb' (by omega))).trans (unhide hd k hk))
  go_enter Tryz.func178, Tryz.ntmps178
  go_wp2_with fail
  go_loopw [4] (fun i wr => ∃ (k m : Nat), k ≤ n ∧ i = .int .i64 (k : Int) ∧ wr = (w.alloc (.cells #[.slice (some ⟨gb, 0, none⟩) n cb, .slice none 0 0, .slice (some ⟨gc, 0, none⟩) n cc, .int .i64 (id : Int), .bool false] 68)).drewN m) (fun i _ => n - (intOf i).toNat)
  case atStart => exact ⟨0, 0, by omega, rfl, rfl⟩
  case round =>
    obtain ⟨k, m, hk, rfl, hw⟩ := hrel
    have HW := hide hw
    have pg : PgAt wr w.heap.size (.slice (some ⟨gb, 0, none⟩) n cb) (.slice none 0 0) (.slice (some ⟨gc, 0, none⟩) n cc) id false := by rw [hw]; exact (unhide PG).drewN
    have p0 := pg.a0
    have p1 := pg.a1
    have p2 := pg.a2
    have p3 := pg.a3
    have p4 := pg.a4
    by_cases hlt : k < n
    · have h1 : wr.cell? ⟨gb, k, none⟩ = some (.string (f k)) := by rw [hw]; exact unhide hc0 _ k hlt
      have h2 : wr.cell? ⟨gc, k, none⟩ = some (.string (f k)) := by rw [hw]; exact unhide hd0 _ k hlt
      have hI : (k : Int) < (n : Int) := by omega
      have hI0 : (0 : Int) ≤ (k : Int) := by omega
      clear hw hc hd hc0 hd0 pg PG
      go_wp2_with fail
      go_quiet (first | (go_at_call 235; refine Calls.quiet_of_same (sameT _ _)))
      go_wp2_with fail
      go_quiet (fail)
      go_wp2_with fail
      go_roundw
      case rel => exact ⟨k + 1, _, by omega, by go_num, by rw [unhide HW]; exact drew_two _ _ _⟩
      case measure => simp [intOf]; omega
    · have hkn : k = n := by omega
      subst hkn
      have hI : ¬ (k : Int) < (k : Int) := by omega
      clear hw hc hd hc0 hd0 pg PG
      go_wp2_with fail
      go_loopw [5] (fun i ww => i = .int .i64 (k : Int) ∧ ww = wr) (fun i _ => 0)
      case atStart => exact ⟨rfl, rfl⟩
      case round =>
        obtain ⟨rfl, rfl⟩ := hrel
        have hJ : ¬ (k : Int) < 0 := by omega
        go_wp2_with fail
        go_ret
        exact ⟨rfl, by rw [unhide HW]; exact below_drewN (bal (Below.refl _ _) _) m⟩
theorem sameG (a : ByteArray) (w : World) : Calls Tryz.prog 235 #[.string a, .string a] w fun e w' => e = .returned (.bool true) ∧ ∃ q os, w' = grow (w.drewN q) os :=
  (sameT a w).mono fun e w' h => ⟨h.1, by rw [h.2]; exact Grn.refl w⟩
theorem behindG (id : Nat) (hid : id < 1000) (w : World) : Calls Tryz.prog 88 #[.int .i64 (id : Int)] w fun e w' => e = .returned (.int .i64 ((id + 100000 : Nat) : Int)) ∧ ∃ q os, w' = grow (w.drewN q) os :=
  (behind_any id hid w).mono fun e w' h => ⟨h.1, by rw [h.2]; exact Grn.refl w⟩
theorem markB (id j : Nat) (hid : id < 1000) (hj : j < 1000) (w : World) (h : Pw w) : Calls Tryz.prog 87 #[.int .i64 ((id : Int) + 100000), .int .i64 (j : Int)] w fun e w' => e = .returned (.string (mkS (id + 100000) j)) ∧ ∃ q os, w' = grow (w.drewN q) os := by
  have e : (id : Int) + 100000 = ((id + 100000 : Nat) : Int) := by omega
  rw [e]
  exact mark_any (id + 100000) j (by omega) (by omega) w h
theorem PgAt.grn {w w' : World} {b id : Nat} {L G S : Value} {d : Bool} (h : PgAt w b L G S id d) (hb : Grn w w') : PgAt w' b L G S id d := by
  have hlt : b < w.heap.size := World.block_lt_of_cell? w ⟨b, 0, none⟩ h.a0
  exact ⟨keep1 hb.below hlt h.a0, keep1 hb.below hlt h.a1, keep1 hb.below hlt h.a2, keep1 hb.below hlt h.a3, keep1 hb.below hlt h.a4⟩
set_option maxRecDepth 100000 in
set_option maxHeartbeats 4000000 in
theorem shows_done (gb gc n cb cc id : Nat) (S : Value) (hn : n ≤ 4096) (hid : id < 1000) (w : World) (hP : Pw w) (hb : gb < w.heap.size) (hb' : gc < w.heap.size) (hc : Hid (∀ k, k < n → w.cell? ⟨gb, k, none⟩ = some (.string (mkS id k)))) (hd : Hid (∀ k, k < n + 64 → w.cell? ⟨gc, k, none⟩ = some (.string (cat (mkS id) n (mkS (id + 100000)) k)))) :
    Calls Tryz.prog 178 #[.agg #[.slice (some ⟨gb, 0, none⟩) n cb, .slice (some ⟨gc, 0, none⟩) (n + 64) cc, S, .int .i64 (id : Int), .bool true]] w fun e w' => e = .returned (.bool true) ∧ Below w.heap.size w w' := by
  have mixed : Tryz.prog.follows .mixedOrders = true := by kernel_rfl
  obtain ⟨W0, hW0⟩ : ∃ W0, W0 = w.alloc (.cells #[.slice (some ⟨gb, 0, none⟩) n cb, .slice (some ⟨gc, 0, none⟩) (n + 64) cc, S, .int .i64 (id : Int), .bool true] 68) := ⟨_, rfl⟩
  have B0 : Hid (Below w.heap.size w W0) := by rw [hW0]; exact bal (Below.refl _ _) _
  have PG : Hid (PgAt W0 w.heap.size (.slice (some ⟨gb, 0, none⟩) n cb) (.slice (some ⟨gc, 0, none⟩) (n + 64) cc) S id true) := by rw [hW0]; exact PgAt.new w _ _ S id true
  have hc0 := hide (fun k (hk : k < n) => keep1 (unhide B0) hb (unhide hc k hk))
  have hd0 := hide (fun k (hk : k < n + 64) => keep1 (unhide B0) hb' (unhide hd k hk))
  have P0 := hide (hP.below (unhide B0))
  have hbW : gb < W0.heap.size := Nat.lt_of_lt_of_le hb (unhide B0).size
  have hcW : gc < W0.heap.size := Nat.lt_of_lt_of_le hb' (unhide B0).size
  have hwW : w.heap.size < W0.heap.size := by rw [hW0]; simp
  have HW0 := hide hW0
  clear hP hc hd hW0
  go_enter Tryz.func178, Tryz.ntmps178
  go_wp2_with fail
  go_loopw [4] (fun i wr => ∃ (k : Nat), k ≤ n ∧ i = .int .i64 (k : Int) ∧ Grn W0 wr) (fun i _ => n - (intOf i).toNat)
  case atStart => exact ⟨0, by omega, rfl, by rw [unhide HW0]; exact Grn.refl _⟩
  case round =>
    obtain ⟨k, hk, rfl, hG⟩ := hrel
    have HG := hide hG
    have pg := (unhide PG).grn hG
    have p0 := pg.a0
    have p1 := pg.a1
    have p3 := pg.a3
    have p4 := pg.a4
    have hsz := hG.below.size
    have hwr : w.heap.size < wr.heap.size := Nat.lt_of_lt_of_le hwW hsz
    have hbr : gb < wr.heap.size := Nat.lt_of_lt_of_le hbW hsz
    have hcr : gc < wr.heap.size := Nat.lt_of_lt_of_le hcW hsz
    by_cases hlt : k < n
    · have h1 := keep1 hG.below hbW (unhide hc0 k hlt)
      have h2 : wr.cell? ⟨gc, k, none⟩ = some (.string (mkS id k)) := by rw [← cat_lt (f := mkS id) (g := mkS (id + 100000)) hlt]; exact keep1 hG.below hcW (unhide hd0 k (by omega))
      have hI : (k : Int) < (n : Int) := by omega
      have hI0 : (0 : Int) ≤ (k : Int) := by omega
      have hI1 : (k : Int) < (n : Int) + 64 := by omega
      have hJ : (0 : Int) < (n : Int) + 64 := by omega
      have HPr := hide ((unhide P0).below hG.below)
      clear pg hG
      go_wp2_with fail
      go_quiet (fail)
      go_wp2_with fail
      generalize hz : wr.drewN nq = wz
      have HZ := hide hz
      have q0 : ∀ n' os, (grow (wz.drewN n') os).cell? ⟨w.heap.size, 0, none⟩ = some (.slice (some ⟨gb, 0, none⟩) n cb) := fun n' os => by rw [← hz]; exact cell_grown hwr p0 n' os
      have q1 : ∀ n' os, (grow (wz.drewN n') os).cell? ⟨w.heap.size, 1, none⟩ = some (.slice (some ⟨gc, 0, none⟩) (n + 64) cc) := fun n' os => by rw [← hz]; exact cell_grown hwr p1 n' os
      have q3 : ∀ n' os, (grow (wz.drewN n') os).cell? ⟨w.heap.size, 3, none⟩ = some (.int .i64 (id : Int)) := fun n' os => by rw [← hz]; exact cell_grown hwr p3 n' os
      have q4 : ∀ n' os, (grow (wz.drewN n') os).cell? ⟨w.heap.size, 4, none⟩ = some (.bool true) := fun n' os => by rw [← hz]; exact cell_grown hwr p4 n' os
      have z1 : ∀ n' os, (grow (wz.drewN n') os).cell? ⟨gb, k, none⟩ = some (.string (mkS id k)) := fun n' os => by rw [← hz]; exact cell_grown hbr h1 n' os
      have z2 : ∀ n' os, (grow (wz.drewN n') os).cell? ⟨gc, k, none⟩ = some (.string (mkS id k)) := fun n' os => by rw [← hz]; exact cell_grown hcr h2 n' os
      have hmk := hide (fun n' os => mark_any id k (by omega) (by omega) (grow (wz.drewN n') os) (by rw [← hz]; exact (unhide HPr).below (Grn.below ⟨nq + n', os, by rw [← World.drewN_drewN]⟩)))
      clear hz p0 p1 p3 p4 h1 h2
      go_quiet_grown (first | (go_at_call 235; refine Calls.grown_of (sameG _ _)) | (go_at_call 87; refine Calls.grown_of (unhide hmk _ _)))
      go_wp2_with fail
      refine ⟨⟨k + 1, by omega, by go_num, ?_⟩, by simp [intOf]; omega⟩
      rw [← unhide HZ]
      exact (unhide HG).trans (Grn.trans ⟨_, #[], by rw [grow_empty]⟩ ⟨_, _, rfl⟩)
    · have hkn : k = n := by omega
      subst hkn
      have hI : ¬ (k : Int) < (k : Int) := by omega
      have hdk := hide (fun j (hj : j < k + 64) => keep1 hG.below hcW (unhide hd0 j hj))
      have HPr := hide ((unhide P0).below hG.below)
      clear hc0 pg hd0 PG hG
      obtain ⟨wy, rfl⟩ : ∃ x, x = wr := ⟨wr, rfl⟩
      have P1 := hide p1
      have P3 := hide p3
      clear p0 p3 p4
      go_wp2_with fail
      clear p1
      go_loopw [5] (fun i ww => ∃ (j : Nat) (K : Int), j ≤ 64 ∧ i = .int .i64 K ∧ K = (k : Int) + (j : Int) ∧ Grn wy ww) (fun i _ => ((k : Int) + 64 - intOf i).toNat)
      case atStart => exact ⟨0, (k : Int), by omega, rfl, by omega, Grn.refl _⟩
      case round =>
        obtain ⟨j, K, hj, rfl, hK, hq⟩ := hrel
        have HQ := hide hq
        have HK := hide hK
        have hqz := hq.below.size
        have q1 : wr.cell? ⟨w.heap.size, 1, none⟩ = some (.slice (some ⟨gc, 0, none⟩) (k + 64) cc) := keep1 hq.below hwr (unhide P1)
        have hK0 : 0 ≤ K := by omega
        by_cases hlj : j < 64
        · have q3 : wr.cell? ⟨w.heap.size, 3, none⟩ = some (.int .i64 (id : Int)) := keep1 hq.below hwr (unhide P3)
          have hI2 : K < (k : Int) + 64 := by omega
          have hKt : K.toNat = k + j := by omega
          have hKj : K - (k : Int) = (j : Int) := by omega
          have hwj : IntKind.i64.wrap (j : Int) = (j : Int) := by rw [IntKind.wrap_i64]; omega
          have hwK : IntKind.i64.wrap (K - (k : Int)) = (j : Int) := by rw [hKj, hwj]
          have z1 : wr.cell? ⟨gc, k + j, none⟩ = some (.string (mkS (id + 100000) j)) := by
            have := unhide hdk (k + j) (by omega)
            rw [cat_ge] at this
            exact keep1 hq.below hcr this
          have hwz : w.heap.size < wr.heap.size := Nat.lt_of_lt_of_le hwr hqz
          have hcz : gc < wr.heap.size := Nat.lt_of_lt_of_le hcr hqz
          have q1' := fun n' os => cell_grown (w := wr) hwz q1 n' os
          have q3' := fun n' os => cell_grown (w := wr) hwz q3 n' os
          have z1' := fun n' os => cell_grown (w := wr) hcz z1 n' os
          have hbe := hide (behindG id hid)
          have hmk := hide (fun n' os => markB id j hid (by omega) (grow (wr.drewN n') os) (((unhide HPr).below hq.below).below (Grn.below ⟨n', os, rfl⟩)))
          clear hq hK hdk
          go_wp2_with fail
          go_quiet_grown (first | (go_at_call 235; refine Calls.grown_of (sameG _ _)) | (go_at_call 87; refine Calls.grown_of (unhide hmk _ _)) | (go_at_call 88; refine Calls.grown_of (unhide hbe _)))
          go_wp2_with fail
          refine ⟨⟨j + 1, K + 1, by omega, by go_num, by have := unhide HK; omega, (unhide HQ).trans ⟨_, _, rfl⟩⟩, by have := unhide HK; simp [intOf]; omega⟩
        · have hI2 : ¬ K < (k : Int) + 64 := by omega
          clear hq hK hdk
          go_wp2_with fail
          go_ret
          exact ⟨rfl, (step_below (step_below (unhide B0) (Nat.le_refl _) (unhide HG).below) (Nat.le_refl _) (unhide HQ).below)⟩
set_option maxRecDepth 100000 in
set_option maxHeartbeats 4000000 in
theorem shows_done0 (gc cc id : Nat) (S : Value) (hid : id < 1000) (w : World) (hP : Pw w) (hb' : gc < w.heap.size) (hd : Hid (∀ k, k < 64 → w.cell? ⟨gc, k, none⟩ = some (.string (mkS (id + 100000) k)))) :
    Calls Tryz.prog 178 #[.agg #[.slice none 0 0, .slice (some ⟨gc, 0, none⟩) 64 cc, S, .int .i64 (id : Int), .bool true]] w fun e w' => e = .returned (.bool true) ∧ Below w.heap.size w w' := by
  have mixed : Tryz.prog.follows .mixedOrders = true := by kernel_rfl
  obtain ⟨W0, hW0⟩ : ∃ W0, W0 = w.alloc (.cells #[.slice none 0 0, .slice (some ⟨gc, 0, none⟩) 64 cc, S, .int .i64 (id : Int), .bool true] 68) := ⟨_, rfl⟩
  have B0 : Hid (Below w.heap.size w W0) := by rw [hW0]; exact bal (Below.refl _ _) _
  have PG : Hid (PgAt W0 w.heap.size (.slice none 0 0) (.slice (some ⟨gc, 0, none⟩) 64 cc) S id true) := by rw [hW0]; exact PgAt.new w _ _ S id true
  have hd0 := hide (fun k (hk : k < 64) => keep1 (unhide B0) hb' (unhide hd k hk))
  have P0 := hide (hP.below (unhide B0))
  have hcW : gc < W0.heap.size := Nat.lt_of_lt_of_le hb' (unhide B0).size
  have hwW : w.heap.size < W0.heap.size := by rw [hW0]; simp
  have HW0 := hide hW0
  clear hP hd hW0
  go_enter Tryz.func178, Tryz.ntmps178
  go_wp2_with fail
  go_loopw [4] (fun i wr => i = .int .i64 0 ∧ wr = W0) (fun i _ => 0)
  case atStart => exact ⟨rfl, (unhide HW0).symm⟩
  case round =>
    obtain ⟨rfl, hw⟩ := hrel
    have p1 := (unhide PG).a1
    rw [← hw] at p1
    have P1 := hide (unhide PG).a1
    have P3 := hide (unhide PG).a3
    have HWW := hide hw
    clear hw
    go_wp2_with fail
    clear p1
    go_loopw [5] (fun i ww => ∃ (j : Nat) (K : Int), j ≤ 64 ∧ i = .int .i64 K ∧ K = (j : Int) ∧ Grn W0 ww) (fun i _ => (64 - intOf i).toNat)
    case atStart => exact ⟨0, 0, by omega, rfl, rfl, by rw [← unhide HWW]; exact Grn.refl _⟩
    case round =>
      obtain ⟨j, K, hj, rfl, hK, hq⟩ := hrel
      have HQ := hide hq
      have HK := hide hK
      have hqz := hq.below.size
      have q1 := keep1 hq.below hwW (unhide P1)
      have hK0 : 0 ≤ K := by omega
      by_cases hlj : j < 64
      · have q3 := keep1 hq.below hwW (unhide P3)
        have hI2 : K < 64 := by omega
        have hKt : K.toNat = j := by omega
        have hwK : IntKind.i64.wrap K = K := by rw [IntKind.wrap_i64]; omega
        have z1 := keep1 hq.below hcW (unhide hd0 j hlj)
        have hwz : w.heap.size < wr.heap.size := Nat.lt_of_lt_of_le hwW hqz
        have hcz : gc < wr.heap.size := Nat.lt_of_lt_of_le hcW hqz
        have q1' := fun n' os => cell_grown (w := wr) hwz q1 n' os
        have q3' := fun n' os => cell_grown (w := wr) hwz q3 n' os
        have z1' := fun n' os => cell_grown (w := wr) hcz z1 n' os
        have hbe := hide (behindG id hid)
        have hmk0 := fun n' os => markB id j hid (by omega) (grow (wr.drewN n') os) (((unhide P0).below hq.below).below (Grn.below ⟨n', os, rfl⟩))
        rw [← hK] at hmk0
        have hmk := hide hmk0
        clear hq hK hmk0
        go_wp2_with fail
        go_quiet_grown (first | (go_at_call 235; refine Calls.grown_of (sameG _ _)) | (go_at_call 87; refine Calls.grown_of (unhide hmk _ _)) | (go_at_call 88; refine Calls.grown_of (unhide hbe _)))
        go_wp2_with fail
        refine ⟨⟨j + 1, K + 1, by omega, by go_num, by have := unhide HK; omega, (unhide HQ).trans ⟨_, _, rfl⟩⟩, by have := unhide HK; simp [intOf]; omega⟩
      · have hI2 : ¬ K < 64 := by omega
        clear hq hK
        go_wp2_with fail
        go_ret
        exact ⟨rfl, step_below (unhide B0) (Nat.le_refl _) (unhide HQ).below⟩
set_option maxRecDepth 100000 in
set_option maxHeartbeats 2000000 in
theorem shows_bare (S : Value) (id : Nat) (w : World) :
    Calls Tryz.prog 178 #[.agg #[.slice none 0 0, .slice none 0 0, S, .int .i64 (id : Int), .bool false]] w fun e w' => e = .returned (.bool true) ∧ Below w.heap.size w w' := by
  go_enter Tryz.func178, Tryz.ntmps178
  go_wp2_with fail
  go_loopw [4] (fun i wr => i = .int .i64 0 ∧ wr = w.alloc (.cells #[.slice none 0 0, .slice none 0 0, S, .int .i64 (id : Int), .bool false] 68)) (fun i _ => 0)
  case atStart => exact ⟨rfl, rfl⟩
  case round =>
    obtain ⟨rfl, rfl⟩ := hrel
    go_wp2_with fail
    go_loopw [5] (fun i ww => i = .int .i64 0 ∧ ww = w.alloc (.cells #[.slice none 0 0, .slice none 0 0, S, .int .i64 (id : Int), .bool false] 68)) (fun i _ => 0)
    case atStart => exact ⟨rfl, rfl⟩
    case round =>
      obtain ⟨rfl, rfl⟩ := hrel
      go_wp2_with fail
      go_ret
      exact ⟨rfl, bal (Below.refl _ _) _⟩
end Go.Proofs.YthiiommpeaejaaaGreatDoor
