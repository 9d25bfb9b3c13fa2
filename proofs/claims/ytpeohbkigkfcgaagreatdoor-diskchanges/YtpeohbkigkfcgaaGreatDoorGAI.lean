import Derived.Test.YtpeohbkigkfcgaaGreatDoorGAH
import Derived.Deep.RegionLaw
import Derived.Deep.Onto
set_option linter.unusedVariables false
set_option linter.unusedSimpArgs false
set_option maxRecDepth 100000
set_option maxHeartbeats 16000000
namespace Go.Proofs.YtpeohbkigkfcgaaGreatDoor.Kt
open Go Go.ChangeShapes Go.WideShapes Go.ChangeAt Go.RowKit Go.Sort
attribute [local go_sem] setCell_drewN alloc_drewN
structure PgAt (w : World) (b : Nat) (L G S : Value) (id : Nat) (d : Bool) : Prop where
 a0 : w.cell? ⟨b, 0, none⟩ = some L
 a1 : w.cell? ⟨b, 1, none⟩ = some G
 a2 : w.cell? ⟨b, 2, none⟩ = some S
 a3 : w.cell? ⟨b, 3, none⟩ = some (.int .i64 (id : Int))
 a4 : w.cell? ⟨b, 4, none⟩ = some (.bool d)
theorem PgAt.new (w : World) (L G S : Value) (id : Nat) (d : Bool) : PgAt (w.alloc (.cells #[L, G, S, .int .i64 (id : Int), .bool d] 122)) w.heap.size L G S id d := ⟨by simp, by simp, by simp, by simp, by simp⟩
theorem PgAt.drewN {w : World} {b id m : Nat} {L G S : Value} {d : Bool} (h : PgAt w b L G S id d) : PgAt (w.drewN m) b L G S id d := ⟨h.a0, h.a1, h.a2, h.a3, h.a4⟩
theorem shows_kept (f : Nat -> ByteArray) (gb gc n cb cc id : Nat) (hn : n <= 4096) (w : World) (hb : 0 < n -> gb < w.heap.size) (hb' : 0 < n -> gc < w.heap.size) (hc : Hid (∀ k, k < n -> w.cell? ⟨gb, k, none⟩ = some (.string (f k)))) (hd : Hid (∀ k, k < n -> w.cell? ⟨gc, k, none⟩ = some (.string (f k)))) :
  Calls Tryz.prog 126 #[.agg #[.slice (some ⟨gb, 0, none⟩) n cb, .slice none 0 0, .slice (some ⟨gc, 0, none⟩) n cc, .int .i64 (id : Int), .bool false]] w fun e w' => e = .returned (.bool true) /\ Below w.heap.size w w' := by
 have PG := hide (PgAt.new w (.slice (some ⟨gb, 0, none⟩) n cb) (.slice none 0 0) (.slice (some ⟨gc, 0, none⟩) n cc) id false)
 have hc0 := hide (fun o k (hk : k < n) => (World.cell?_alloc_lt w o ⟨gb, k, none⟩ (hb (by omega))).trans (uh hc k hk))
 have hd0 := hide (fun o k (hk : k < n) => (World.cell?_alloc_lt w o ⟨gc, k, none⟩ (hb' (by omega))).trans (uh hd k hk))
 go_enter Tryz.func126, Tryz.ntmps126
 go_wp2_with fail
 go_loopw [4] (fun i wr => ∃ (k m : Nat), k <= n /\ i = .int .i64 (k : Int) /\ wr = (w.alloc (.cells #[.slice (some ⟨gb, 0, none⟩) n cb, .slice none 0 0, .slice (some ⟨gc, 0, none⟩) n cc, .int .i64 (id : Int), .bool false] 122)).drewN m) (fun i _ => n - (intOf i).toNat)
 case atStart => exact ⟨0, 0, by omega, rfl, rfl⟩
 case round =>
  obtain ⟨k, m, hk, rfl, hw⟩ := hrel
  have HW := hide hw
  have pg : PgAt wr w.heap.size (.slice (some ⟨gb, 0, none⟩) n cb) (.slice none 0 0) (.slice (some ⟨gc, 0, none⟩) n cc) id false := by rw [hw]; exact (uh PG).drewN
  have p0 := pg.a0
  have p1 := pg.a1
  have p2 := pg.a2
  have p3 := pg.a3
  have p4 := pg.a4
  by_cases hlt : k < n
  ·have h1 : wr.cell? ⟨gb, k, none⟩ = some (.string (f k)) := by rw [hw]; exact uh hc0 _ k hlt
   have h2 : wr.cell? ⟨gc, k, none⟩ = some (.string (f k)) := by rw [hw]; exact uh hd0 _ k hlt
   have hI : (k : Int) < (n : Int) := by omega
   have hI0 : (0 : Int) <= (k : Int) := by omega
   clear hw hc hd hc0 hd0 pg PG
   go_wp2_with fail
   go_quiet (first | (go_at_call 221; refine Calls.quiet_of_same (sameT _ _)))
   go_wp2_with fail
   go_quiet (fail)
   go_wp2_with fail
   go_roundw
   case rel => exact ⟨k + 1, _, by omega, by go_num, by rw [uh HW]; exact drew_two _ _ _⟩
   case measure => simp [intOf]; omega
  ·have hkn : k = n := by omega
   subst hkn
   have hI : ¬ (k : Int) < (k : Int) := by omega
   clear hw hc hd hc0 hd0 pg PG
   go_wp2_with fail
   go_loopw [5] (fun i ww => i = .int .i64 (k : Int) /\ ww = wr) (fun i _ => 0)
   case atStart => exact ⟨rfl, rfl⟩
   case round =>
    obtain ⟨rfl, rfl⟩ := hrel
    have hJ : ¬ (k : Int) < 0 := by omega
    go_wp2_with fail
    go_ret
    exact ⟨rfl, by rw [uh HW]; exact below_drewN (bal (Below.refl _ _) _) m⟩
theorem sameG (a : ByteArray) (w : World) : Calls Tryz.prog 221 #[.string a, .string a] w fun e w' => e = .returned (.bool true) /\ ∃ q os, w' = grow (w.drewN q) os :=
 (sameT a w).mono fun e w' h => ⟨h.1, by rw [h.2]; exact Grn.refl w⟩
theorem behindG (id : Nat) (hid : id < 1000) (w : World) : Calls Tryz.prog 218 #[.int .i64 (id : Int)] w fun e w' => e = .returned (.int .i64 ((id + 100000 : Nat) : Int)) /\ ∃ q os, w' = grow (w.drewN q) os :=
 (behind_any id hid w).mono fun e w' h => ⟨h.1, by rw [h.2]; exact Grn.refl w⟩
theorem markB (id j : Nat) (hid : id < 1000) (hj : j < 1000) (w : World) (h : Pw w) : Calls Tryz.prog 222 #[.int .i64 ((id : Int) + 100000), .int .i64 (j : Int)] w fun e w' => e = .returned (.string (mkS (id + 100000) j)) /\ ∃ q os, w' = grow (w.drewN q) os := by
 have e : (id : Int) + 100000 = ((id + 100000 : Nat) : Int) := by omega
 rw [e]
 exact mark_any (id + 100000) j (by omega) (by omega) w h
theorem PgAt.grn {w w' : World} {b id : Nat} {L G S : Value} {d : Bool} (h : PgAt w b L G S id d) (hb : Grn w w') : PgAt w' b L G S id d := by
 have hlt : b < w.heap.size := World.block_lt_of_cell? w ⟨b, 0, none⟩ h.a0
 exact ⟨keep1 hb.below hlt h.a0, keep1 hb.below hlt h.a1, keep1 hb.below hlt h.a2, keep1 hb.below hlt h.a3, keep1 hb.below hlt h.a4⟩
theorem shows_done (gb gc n cb cc id : Nat) (S : Value) (hn : n <= 4096) (hid : id < 1000) (w : World) (hP : Pw w) (hb : gb < w.heap.size) (hb' : gc < w.heap.size) (hc : Hid (∀ k, k < n -> w.cell? ⟨gb, k, none⟩ = some (.string (mkS id k)))) (hd : Hid (∀ k, k < n + 64 -> w.cell? ⟨gc, k, none⟩ = some (.string (cat (mkS id) n (mkS (id + 100000)) k)))) :
  Calls Tryz.prog 126 #[.agg #[.slice (some ⟨gb, 0, none⟩) n cb, .slice (some ⟨gc, 0, none⟩) (n + 64) cc, S, .int .i64 (id : Int), .bool true]] w fun e w' => e = .returned (.bool true) /\ Below w.heap.size w w' := by
 have mixed : Tryz.prog.follows .mixedOrders = true := by kernel_rfl
 obtain ⟨W0, hW0⟩ : ∃ W0, W0 = w.alloc (.cells #[.slice (some ⟨gb, 0, none⟩) n cb, .slice (some ⟨gc, 0, none⟩) (n + 64) cc, S, .int .i64 (id : Int), .bool true] 122) := ⟨_, rfl⟩
 have B0 : Hid (Below w.heap.size w W0) := by rw [hW0]; exact bal (Below.refl _ _) _
 have PG : Hid (PgAt W0 w.heap.size (.slice (some ⟨gb, 0, none⟩) n cb) (.slice (some ⟨gc, 0, none⟩) (n + 64) cc) S id true) := by rw [hW0]; exact PgAt.new w _ _ S id true
 have hc0 := hide (fun k (hk : k < n) => keep1 (uh B0) hb (uh hc k hk))
 have hd0 := hide (fun k (hk : k < n + 64) => keep1 (uh B0) hb' (uh hd k hk))
 have P0 := hide (hP.below (uh B0))
 have hbW : gb < W0.heap.size := Nat.lt_of_lt_of_le hb (uh B0).size
 have hcW : gc < W0.heap.size := Nat.lt_of_lt_of_le hb' (uh B0).size
 have hwW : w.heap.size < W0.heap.size := by rw [hW0]; simp
 have HW0 := hide hW0
 clear hP hc hd hW0
 go_enter Tryz.func126, Tryz.ntmps126
 go_wp2_with fail
 go_loopw [4] (fun i wr => ∃ (k : Nat), k <= n /\ i = .int .i64 (k : Int) /\ Grn W0 wr) (fun i _ => n - (intOf i).toNat)
 case atStart => exact ⟨0, by omega, rfl, by rw [uh HW0]; exact Grn.refl _⟩
 case round =>
  obtain ⟨k, hk, rfl, hG⟩ := hrel
  have HG := hide hG
  have pg := (uh PG).grn hG
  have p0 := pg.a0
  have p1 := pg.a1
  have p3 := pg.a3
  have p4 := pg.a4
  have hsz := hG.below.size
  have hwr : w.heap.size < wr.heap.size := Nat.lt_of_lt_of_le hwW hsz
  have hbr : gb < wr.heap.size := Nat.lt_of_lt_of_le hbW hsz
  have hcr : gc < wr.heap.size := Nat.lt_of_lt_of_le hcW hsz
  by_cases hlt : k < n
  ·have h1 := keep1 hG.below hbW (uh hc0 k hlt)
   have h2 : wr.cell? ⟨gc, k, none⟩ = some (.string (mkS id k)) := by rw [<- cat_lt (f := mkS id) (g := mkS (id + 100000)) hlt]; exact keep1 hG.below hcW (uh hd0 k (by omega))
   have hI : (k : Int) < (n : Int) := by omega
   have hI0 : (0 : Int) <= (k : Int) := by omega
   have hI1 : (k : Int) < (n : Int) + 64 := by omega
   have hJ : (0 : Int) < (n : Int) + 64 := by omega
   have HPr := hide ((uh P0).below hG.below)
   clear pg hG
   go_wp2_with fail
   go_quiet (fail)
   go_wp2_with fail
   generalize hz : wr.drewN nq = wz
   have HZ := hide hz
   have q0 : ∀ n' os, (grow (wz.drewN n') os).cell? ⟨w.heap.size, 0, none⟩ = some (.slice (some ⟨gb, 0, none⟩) n cb) := fun n' os => by rw [<- hz]; exact cell_grown hwr p0 n' os
   have q1 : ∀ n' os, (grow (wz.drewN n') os).cell? ⟨w.heap.size, 1, none⟩ = some (.slice (some ⟨gc, 0, none⟩) (n + 64) cc) := fun n' os => by rw [<- hz]; exact cell_grown hwr p1 n' os
   have q3 : ∀ n' os, (grow (wz.drewN n') os).cell? ⟨w.heap.size, 3, none⟩ = some (.int .i64 (id : Int)) := fun n' os => by rw [<- hz]; exact cell_grown hwr p3 n' os
   have q4 : ∀ n' os, (grow (wz.drewN n') os).cell? ⟨w.heap.size, 4, none⟩ = some (.bool true) := fun n' os => by rw [<- hz]; exact cell_grown hwr p4 n' os
   have z1 : ∀ n' os, (grow (wz.drewN n') os).cell? ⟨gb, k, none⟩ = some (.string (mkS id k)) := fun n' os => by rw [<- hz]; exact cell_grown hbr h1 n' os
   have z2 : ∀ n' os, (grow (wz.drewN n') os).cell? ⟨gc, k, none⟩ = some (.string (mkS id k)) := fun n' os => by rw [<- hz]; exact cell_grown hcr h2 n' os
   have hmk := hide (fun n' os => mark_any id k (by omega) (by omega) (grow (wz.drewN n') os) (by rw [<- hz]; exact (uh HPr).below (Grn.below ⟨nq + n', os, by rw [<- World.drewN_drewN]⟩)))
   clear hz p0 p1 p3 p4 h1 h2
   go_quiet_grown (first | (go_at_call 221; refine Calls.grown_of (sameG _ _)) | (go_at_call 222; refine Calls.grown_of (uh hmk _ _)))
   go_wp2_with fail
   refine ⟨⟨k + 1, by omega, by go_num, ?_⟩, by simp [intOf]; omega⟩
   rw [<- uh HZ]
   exact (uh HG).trans (Grn.trans ⟨_, #[], by rw [grow_empty]⟩ ⟨_, _, rfl⟩)
  ·have hkn : k = n := by omega
   subst hkn
   have hI : ¬ (k : Int) < (k : Int) := by omega
   have hdk := hide (fun j (hj : j < k + 64) => keep1 hG.below hcW (uh hd0 j hj))
   have HPr := hide ((uh P0).below hG.below)
   clear hc0 pg hd0 PG hG
   obtain ⟨wy, rfl⟩ : ∃ x, x = wr := ⟨wr, rfl⟩
   have P1 := hide p1
   have P3 := hide p3
   clear p0 p3 p4
   go_wp2_with fail
   clear p1
   go_loopw [5] (fun i ww => ∃ (j : Nat) (K : Int), j <= 64 /\ i = .int .i64 K /\ K = (k : Int) + (j : Int) /\ Grn wy ww) (fun i _ => ((k : Int) + 64 - intOf i).toNat)
   case atStart => exact ⟨0, (k : Int), by omega, rfl, by omega, Grn.refl _⟩
   case round =>
    obtain ⟨j, K, hj, rfl, hK, hq⟩ := hrel
    have HQ := hide hq
    have HK := hide hK
    have hqz := hq.below.size
    have q1 : wr.cell? ⟨w.heap.size, 1, none⟩ = some (.slice (some ⟨gc, 0, none⟩) (k + 64) cc) := keep1 hq.below hwr (uh P1)
    have hK0 : 0 <= K := by omega
    by_cases hlj : j < 64
    ·have q3 : wr.cell? ⟨w.heap.size, 3, none⟩ = some (.int .i64 (id : Int)) := keep1 hq.below hwr (uh P3)
     have hI2 : K < (k : Int) + 64 := by omega
     have hKt : K.toNat = k + j := by omega
     have hKj : K - (k : Int) = (j : Int) := by omega
     have hwj : IntKind.i64.wrap (j : Int) = (j : Int) := by rw [IntKind.wrap_i64]; omega
     have hwK : IntKind.i64.wrap (K - (k : Int)) = (j : Int) := by rw [hKj, hwj]
     have z1 : wr.cell? ⟨gc, k + j, none⟩ = some (.string (mkS (id + 100000) j)) := by
      have := uh hdk (k + j) (by omega)
      rw [cat_ge] at this
      exact keep1 hq.below hcr this
     have hwz : w.heap.size < wr.heap.size := Nat.lt_of_lt_of_le hwr hqz
     have hcz : gc < wr.heap.size := Nat.lt_of_lt_of_le hcr hqz
     have q1' := fun n' os => cell_grown (w := wr) hwz q1 n' os
     have q3' := fun n' os => cell_grown (w := wr) hwz q3 n' os
     have z1' := fun n' os => cell_grown (w := wr) hcz z1 n' os
     have hbe := hide (behindG id hid)
     have hmk := hide (fun n' os => markB id j hid (by omega) (grow (wr.drewN n') os) (((uh HPr).below hq.below).below (Grn.below ⟨n', os, rfl⟩)))
     clear hq hK hdk
     go_wp2_with fail
     go_quiet_grown (first | (go_at_call 221; refine Calls.grown_of (sameG _ _)) | (go_at_call 222; refine Calls.grown_of (uh hmk _ _)) | (go_at_call 218; refine Calls.grown_of (uh hbe _)))
     go_wp2_with fail
     refine ⟨⟨j + 1, K + 1, by omega, by go_num, by have := uh HK; omega, (uh HQ).trans ⟨_, _, rfl⟩⟩, by have := uh HK; simp [intOf]; omega⟩
    ·have hI2 : ¬ K < (k : Int) + 64 := by omega
     clear hq hK hdk
     go_wp2_with fail
     go_ret
     exact ⟨rfl, (step_below (step_below (uh B0) (Nat.le_refl _) (uh HG).below) (Nat.le_refl _) (uh HQ).below)⟩
theorem shows_done0 (gc cc id : Nat) (S : Value) (hid : id < 1000) (w : World) (hP : Pw w) (hb' : gc < w.heap.size) (hd : Hid (∀ k, k < 64 -> w.cell? ⟨gc, k, none⟩ = some (.string (mkS (id + 100000) k)))) :
  Calls Tryz.prog 126 #[.agg #[.slice none 0 0, .slice (some ⟨gc, 0, none⟩) 64 cc, S, .int .i64 (id : Int), .bool true]] w fun e w' => e = .returned (.bool true) /\ Below w.heap.size w w' := by
 have mixed : Tryz.prog.follows .mixedOrders = true := by kernel_rfl
 obtain ⟨W0, hW0⟩ : ∃ W0, W0 = w.alloc (.cells #[.slice none 0 0, .slice (some ⟨gc, 0, none⟩) 64 cc, S, .int .i64 (id : Int), .bool true] 122) := ⟨_, rfl⟩
 have B0 : Hid (Below w.heap.size w W0) := by rw [hW0]; exact bal (Below.refl _ _) _
 have PG : Hid (PgAt W0 w.heap.size (.slice none 0 0) (.slice (some ⟨gc, 0, none⟩) 64 cc) S id true) := by rw [hW0]; exact PgAt.new w _ _ S id true
 have hd0 := hide (fun k (hk : k < 64) => keep1 (uh B0) hb' (uh hd k hk))
 have P0 := hide (hP.below (uh B0))
 have hcW : gc < W0.heap.size := Nat.lt_of_lt_of_le hb' (uh B0).size
 have hwW : w.heap.size < W0.heap.size := by rw [hW0]; simp
 have HW0 := hide hW0
 clear hP hd hW0
 go_enter Tryz.func126, Tryz.ntmps126
 go_wp2_with fail
 go_loopw [4] (fun i wr => i = .int .i64 0 /\ wr = W0) (fun i _ => 0)
 case atStart => exact ⟨rfl, (uh HW0).symm⟩
 case round =>
  obtain ⟨rfl, hw⟩ := hrel
  have p1 := (uh PG).a1
  rw [<- hw] at p1
  have P1 := hide (uh PG).a1
  have P3 := hide (uh PG).a3
  have HWW := hide hw
  clear hw
  go_wp2_with fail
  clear p1
  go_loopw [5] (fun i ww => ∃ (j : Nat) (K : Int), j <= 64 /\ i = .int .i64 K /\ K = (j : Int) /\ Grn W0 ww) (fun i _ => (64 - intOf i).toNat)
  case atStart => exact ⟨0, 0, by omega, rfl, rfl, by rw [<- uh HWW]; exact Grn.refl _⟩
  case round =>
   obtain ⟨j, K, hj, rfl, hK, hq⟩ := hrel
   have HQ := hide hq
   have HK := hide hK
   have hqz := hq.below.size
   have q1 := keep1 hq.below hwW (uh P1)
   have hK0 : 0 <= K := by omega
   by_cases hlj : j < 64
   ·have q3 := keep1 hq.below hwW (uh P3)
    have hI2 : K < 64 := by omega
    have hKt : K.toNat = j := by omega
    have hwK : IntKind.i64.wrap K = K := by rw [IntKind.wrap_i64]; omega
    have z1 := keep1 hq.below hcW (uh hd0 j hlj)
    have hwz : w.heap.size < wr.heap.size := Nat.lt_of_lt_of_le hwW hqz
    have hcz : gc < wr.heap.size := Nat.lt_of_lt_of_le hcW hqz
    have q1' := fun n' os => cell_grown (w := wr) hwz q1 n' os
    have q3' := fun n' os => cell_grown (w := wr) hwz q3 n' os
    have z1' := fun n' os => cell_grown (w := wr) hcz z1 n' os
    have hbe := hide (behindG id hid)
    have hmk0 := fun n' os => markB id j hid (by omega) (grow (wr.drewN n') os) (((uh P0).below hq.below).below (Grn.below ⟨n', os, rfl⟩))
    rw [<- hK] at hmk0
    have hmk := hide hmk0
    clear hq hK hmk0
    go_wp2_with fail
    go_quiet_grown (first | (go_at_call 221; refine Calls.grown_of (sameG _ _)) | (go_at_call 222; refine Calls.grown_of (uh hmk _ _)) | (go_at_call 218; refine Calls.grown_of (uh hbe _)))
    go_wp2_with fail
    refine ⟨⟨j + 1, K + 1, by omega, by go_num, by have := uh HK; omega, (uh HQ).trans ⟨_, _, rfl⟩⟩, by have := uh HK; simp [intOf]; omega⟩
   ·have hI2 : ¬ K < 64 := by omega
    clear hq hK
    go_wp2_with fail
    go_ret
    exact ⟨rfl, step_below (uh B0) (Nat.le_refl _) (uh HQ).below⟩
theorem shows_bare (S : Value) (id : Nat) (w : World) :
  Calls Tryz.prog 126 #[.agg #[.slice none 0 0, .slice none 0 0, S, .int .i64 (id : Int), .bool false]] w fun e w' => e = .returned (.bool true) /\ Below w.heap.size w w' := by
 go_enter Tryz.func126, Tryz.ntmps126
 go_wp2_with fail
 go_loopw [4] (fun i wr => i = .int .i64 0 /\ wr = w.alloc (.cells #[.slice none 0 0, .slice none 0 0, S, .int .i64 (id : Int), .bool false] 122)) (fun i _ => 0)
 case atStart => exact ⟨rfl, rfl⟩
 case round =>
  obtain ⟨rfl, rfl⟩ := hrel
  go_wp2_with fail
  go_loopw [5] (fun i ww => i = .int .i64 0 /\ ww = w.alloc (.cells #[.slice none 0 0, .slice none 0 0, S, .int .i64 (id : Int), .bool false] 122)) (fun i _ => 0)
  case atStart => exact ⟨rfl, rfl⟩
  case round =>
   obtain ⟨rfl, rfl⟩ := hrel
   go_wp2_with fail
   go_ret
   exact ⟨rfl, bal (Below.refl _ _) _⟩
end Go.Proofs.YtpeohbkigkfcgaaGreatDoor.Kt
namespace Go.Proofs.YtpeohbkigkfcgaaGreatDoor.Kt
open Go Go.ChangeShapes Go.WideShapes Go.ChangeAt Go.RowKit
attribute [local go_sem] setCell_drewN alloc_drewN
theorem grow_farW {W w5 : World} {v : Value} {g pg i : Nat} {u : Value} (h : (v.ownBlock = some g /\ W.grownBy w5 (some g)) \/ (g = W.heap.size /\ W.grownBy w5 none)) (hv : ∀ k, v.ownBlock = some k -> k ≠ pg) (hp : pg < W.heap.size) (hc : W.cell? ⟨pg, i, none⟩ = some u) : w5.cell? ⟨pg, i, none⟩ = some u := by
 rcases h with ⟨h1, h2⟩ | ⟨_, h2⟩
 ·exact (h2.cell_far ⟨pg, i, none⟩ hp (by simpa using Ne.symm (hv g h1))).trans hc
 ·exact (h2.cell_far ⟨pg, i, none⟩ hp (by simp)).trans hc
theorem grow_farFW {W w5 : World} {v : Value} {g pg i : Nat} {u : Bool} (h : (v.ownBlock = some g /\ W.grownBy w5 (some g)) \/ (g = W.heap.size /\ W.grownBy w5 none)) (hv : ∀ k, v.ownBlock = some k -> k ≠ pg) (hp : pg < W.heap.size) (hc : W.frozen? ⟨pg, i, none⟩ = u) : w5.frozen? ⟨pg, i, none⟩ = u := by
 rcases h with ⟨h1, h2⟩ | ⟨_, h2⟩
 ·exact (h2.frozen_far ⟨pg, i, none⟩ hp (by simpa using Ne.symm (hv g h1))).trans hc
 ·exact (h2.frozen_far ⟨pg, i, none⟩ hp (by simp)).trans hc
theorem GrowAt.step {w wr W w5 : World} {pg po gb n id B j g c5 : Nat} {v : Value} (h : GrowAt w pg po gb n id B j v wr) (hne : pg ≠ gb) (hpg : pg < w.heap.size) (hgb : 0 < n -> gb < w.heap.size) (hb : Below wr.heap.size wr W)
  (h5 : w5.ownsRow B 9 1 (.slice (some ⟨g, 0, none⟩) (n + j + 1) c5) (n + j + 1) (scells (cat (mkS id) n (mkS (id + 100000))) (n + j) ++ [.string (mkS (id + 100000) j)])) (hg : (v.ownBlock = some g /\ W.grownBy w5 (some g)) \/ (g = W.heap.size /\ W.grownBy w5 none)) :
  GrowAt w pg po gb n id B (j + 1) (.slice (some ⟨g, 0, none⟩) (n + j + 1) c5) (w5.setCell ⟨pg, po + 1, none⟩ (.slice (some ⟨g, 0, none⟩) (n + j + 1) c5)) := by
 have hsz := h.size
 have hszW := hb.size
 have hrow : ∃ row : Option Nat, W.grownBy w5 row /\ (∀ k, k < w.heap.size -> k ≠ gb -> some k ≠ row) /\ (g ≠ gb -> some gb ≠ row) := by
  rcases hg with ⟨h1, h2⟩ | ⟨h1, h2⟩
  ·refine ⟨_, h2, fun k hk hkg e => ?_, fun hgg e => hgg (by injection e with e; exact e.symm)⟩
   injection e with e
   subst e
   rcases h.at' with h' | h'
   ·rw [h'] at h1; injection h1 with h1; exact hkg h1.symm
   ·have := h' k h1; omega
  ·exact ⟨none, h2, fun _ _ _ => by simp, fun _ => by simp⟩
 obtain ⟨row, gr, hr1, hr2⟩ := hrow
 have hgp : g ≠ pg := by
  rcases hg with ⟨h1, _⟩ | ⟨h1, _⟩
  ·exact h.ne hne hpg g h1
  ·omega
 have hpW : pg < W.heap.size := by omega
 have hcell : ∀ i, w5.cell? ⟨pg, i, none⟩ = wr.cell? ⟨pg, i, none⟩ := fun i => (gr.cell_far ⟨pg, i, none⟩ hpW (hr1 pg hpg hne)).trans (hb.cell (p := ⟨pg, i, none⟩) (by show pg < wr.heap.size; omega))
 have hfro : ∀ i, w5.frozen? ⟨pg, i, none⟩ = wr.frozen? ⟨pg, i, none⟩ := fun i => (gr.frozen_far ⟨pg, i, none⟩ hpW (hr1 pg hpg hne)).trans (hb.frozen (p := ⟨pg, i, none⟩) (by show pg < wr.heap.size; omega))
 have hset : w5.grownBy (w5.setCell ⟨pg, po + 1, none⟩ (.slice (some ⟨g, 0, none⟩) (n + j + 1) c5)) (some pg) := ⟨rfl, rfl, rfl, by simp [World.setCell], fun k hk hne => Below.heap_setCell _ _ _ _ (fun e => hne (by rw [e]))⟩
 have h5' : w5.ownsRow B 9 1 (.slice (some ⟨g, 0, none⟩) (n + j + 1) c5) (n + j + 1) (scells (cat (mkS id) n (mkS (id + 100000))) (n + (j + 1))) := by
  rw [<- Nat.add_assoc, scells_succ, cat_ge]
  exact h5
 have hown := h5'.kept hset (.inr (by simp [Value.ownBlock]; exact hgp))
 refine ⟨by have := gr.size; have := hset.size; omega, gr.os.trans (hb.os.trans h.os), gr.tape.trans (hb.tape.trans h.tape), gr.output.trans (hb.output.trans h.output), fun k hk h1 h2 => ?_, fun i hi => ?_, fun i => ?_, World.cell?_setCell_same _ _ _ ((hcell (po + 1)).trans h.g), hown, ?_, fun k hk => ?_, fun t S hS => obj_setT (by rw [gr.block pg hpW (hr1 pg hpg hne), hb.block pg (by omega)]; exact h.pobj t S hS)⟩
 ·have hk5 : k < w5.heap.size := by have := gr.size; omega
  rw [hset.block k hk5 (by simpa using h1), gr.block k (by omega) (hr1 k hk h2), hb.block k (by omega)]
  exact h.far k hk h1 h2
 ·rw [World.cell?_setCell_other _ _ _ _ (by intro h'; injection h' with _ h' _; exact hi h'.symm), hcell i]
  exact h.page i hi
 ·rw [World.frozen?_setCell, hfro i]
  exact h.pagef i
 ·rcases hg with ⟨h1, _⟩ | ⟨h1, _⟩
  ·rcases h.at' with h' | h'
   ·exact .inl (by rw [h'] at h1; injection h1 with h1; simp [Value.ownBlock, h1])
   ·exact .inr fun k hk => h' k (by simp [Value.ownBlock] at hk; rw [h1, hk])
  ·exact .inr fun k hk => by simp [Value.ownBlock] at hk; omega
 ·have hgb' := hgb (by omega)
  by_cases hgg : g = gb
  ·subst hgg
   rw [hown.cellAt k (by omega), scells_get _ _ _ (by omega), cat_lt hk]
  ·rw [World.cell?_setCell_other _ _ _ _ (by intro h'; injection h' with h' _ _; exact hne h'), gr.cell_far ⟨gb, k, none⟩ (by show gb < W.heap.size; omega) (hr2 hgg), hb.cell (p := ⟨gb, k, none⟩) (by show gb < wr.heap.size; omega)]
   exact h.lst k hk
theorem grow_some (pg po gb n cap id B : Nat) (hid : id < 1000) (hn : n <= 4096) (w : World) (hB : B <= w.heap.size) (hne : pg ≠ gb) (hgb : gb < w.heap.size) (hL : w.cell? ⟨pg, po, none⟩ = some (.slice (some ⟨gb, 0, none⟩) n cap)) (hG : ∃ u, w.cell? ⟨pg, po + 1, none⟩ = some u) (hGf : w.frozen? ⟨pg, po + 1, none⟩ = false) (hI : w.cell? ⟨pg, po + 3, none⟩ = some (.int .i64 (id : Int)))
  (hP : Pw w) (h3 : pg ≠ 0 /\ gb ≠ 0) (hown : w.ownsRow B 9 1 (.slice (some ⟨gb, 0, none⟩) n cap) n (scells (mkS id) n)) :
  Calls Tryz.prog 177 #[.pointer (some ⟨pg, po, none⟩)] w fun e w' => e = .returned (.tuple #[]) /\ ∃ v, GrowAt w pg po gb n id B 64 v w' := by
 obtain ⟨u, hu⟩ := hG
 obtain ⟨i0, hi, hz0, hz1, hz2⟩ := info_parts info9
 have HI := hide hi; have HZ0 := hide hz0; have HZ1 := hide hz1; have HZ2 := hide hz2
 have hpg : pg < w.heap.size := World.block_lt_of_cell? w ⟨pg, po, none⟩ hL
 have G0 : Hid (GrowAt w pg po gb n id B 0 (.slice (some ⟨gb, 0, none⟩) n cap) (w.setCell ⟨pg, po + 1, none⟩ (.slice (some ⟨gb, 0, none⟩) n cap))) := by
  have hgr : w.grownBy (w.setCell ⟨pg, po + 1, none⟩ (.slice (some ⟨gb, 0, none⟩) n cap)) (some pg) := ⟨rfl, rfl, rfl, by simp [World.setCell], fun k hk hne => Below.heap_setCell _ _ _ _ (fun e => hne (by rw [e]))⟩
  have how : (w.setCell ⟨pg, po + 1, none⟩ (.slice (some ⟨gb, 0, none⟩) n cap)).ownsRow B 9 1 (.slice (some ⟨gb, 0, none⟩) n cap) n (scells (mkS id) n) := hown.kept hgr (.inr (by simp [Value.ownBlock]; exact fun e => hne e.symm))
  refine ⟨hgr.size, rfl, rfl, rfl, fun k hk h1 h2 => hgr.block k hk (by simpa using h1), fun i hi => World.cell?_setCell_other _ _ _ _ (by intro h'; injection h' with _ h' _; exact hi h'.symm), fun i => by simp, World.cell?_setCell_same _ _ _ hu, ?_, .inl rfl, fun k hk => ?_, fun t S hS => obj_setT hS⟩
  ·rw [show scells (cat (mkS id) n (mkS (id + 100000))) (n + 0) = scells (mkS id) n from scells_ext n (fun i hi => cat_lt hi)]
   exact how
  ·rw [how.cellAt k (by omega)]
   exact scells_get _ _ _ hk
 have HID := hide hI
 have HGF := hide hGf
 have HPW := hide hP
 clear hi hz0 hz1 hz2 hown hP
 go_enter Tryz.func177, Tryz.ntmps177
 go_wp2_with fail
 clear hL hI hu hGf
 go_loopw [2] (fun i wr => ∃ (j : Nat) (v : Value), j <= 64 /\ i = .int .i64 (j : Int) /\ GrowAt w pg po gb n id B j v wr) (fun i _ => 64 - (intOf i).toNat)
 case atStart => exact ⟨0, _, by omega, rfl, uh G0⟩
 case round =>
  obtain ⟨j, v, hj, rfl, hs⟩ := hrel
  have HS := hide hs
  clear G0
  by_cases hlt : j < 64
  ·have l1 := hs.g
   have l2 : wr.cell? ⟨pg, po + 3, none⟩ = some (.int .i64 (id : Int)) := (hs.page (po + 3) (by omega)).trans (uh HID)
   have l3 : wr.frozen? ⟨pg, po + 1, none⟩ = false := (hs.pagef (po + 1)).trans (uh HGF)
   have hI1 : (j : Int) < 64 := by omega
   have hpr : pg < wr.heap.size := Nat.lt_of_lt_of_le hpg hs.size
   have hBr : B <= wr.heap.size := Nat.le_trans hB hs.size
   have OWN := hide hs.own
   have hvn := hide (hs.ne hne hpg)
   have hbe := hide (behind_any id hid)
   have hPr := hide ((uh HPW).keep (hs.far 0 (uh HPW).lt (fun e => h3.1 e.symm) (fun e => h3.2 e.symm)))
   have hmk := hide (fun (W : World) (hW : W.heap[0]? = wr.heap[0]?) => markB id j hid (by omega) W ((uh hPr).keep hW))
   clear hs
   go_wp2_with fail
   go_region_law (first
    | (refine step_append_keep _ rfl _ _ rfl B i0 (uh HI) (uh HZ0) (uh HZ1) (uh HZ2) v (n + j) _ rfl ((uh OWN2).alloc _) ⟨w2.heap.size, 0, none⟩ 1 1 [.string (mkS (id + 100000) j)] rfl rfl (cell_one_new _ _ _) (one_one _) (by omega) (by omega) (by simp; omega) ?_; intro g c5 w5 hown5 hgr5; have hp5 := uh hpa (.cells #[.string (mkS (id + 100000) j)] 9); have t5 := grow_farW hgr5 (uh hvn) hp5 (uh l1a _); have f5 := grow_farFW hgr5 (uh hvn) hp5 (uh l3a _); have O5 := hide hown5; have G5 := hide hgr5; clear hown5 hgr5)
    | (go_simp; go_at_call 218; refine (uh hbe _).mono ?_; rintro e w2 ⟨rfl, hw⟩; rw [hw]; clear hw w2)
    | (go_simp; go_at_call 222; refine (uh hmk wr.drew rfl).mono ?_; rintro e w2 ⟨rfl, hg⟩; have hb0 := Grn.below hg; have hb2 : Below wr.heap.size wr w2 := ⟨hb0.os, hb0.tape, hb0.output, hb0.size, hb0.block⟩; have m1 := keep1 hb2 hpr l1; have hp2 : pg < w2.heap.size := Nat.lt_of_lt_of_le hpr hb2.size; have hB2 : B <= w2.heap.size := Nat.le_trans hBr hb2.size; have m1a := fun o => (World.cell?_alloc_lt w2 o ⟨pg, po + 1, none⟩ hp2).trans m1; have l1a := hide m1a; have l3a := hide (fun o => show (w2.alloc o).frozen? ⟨pg, po + 1, none⟩ = false from ((bal (Below.refl w2.heap.size w2) o).frozen (p := ⟨pg, po + 1, none⟩) hp2).trans (keepF hb2 hpr l3)); have hpa := hide (fun o => show pg < (w2.alloc o).heap.size from (by rw [World.size_alloc]; omega)); have OWN2 := hide (own_below (uh OWN) hb2); have B2 := hide hb2; clear hg hb0 hb2))
   all_goals
    go_wp2_with fail
    refine ⟨⟨j + 1, _, by omega, by go_num, (uh HS).step hne hpg (fun _ => hgb) ((uh B2).alloc (uh B2).size _) (uh O5) (uh G5)⟩, by simp [intOf]; omega⟩
  ·have hj64 : j = 64 := by omega
   subst hj64
   clear hs
   go_wp2_with fail
   go_end0
   exact ⟨rfl, v, uh HS⟩
theorem grow_none (pg po id B : Nat) (hid : id < 1000) (w : World) (hB : B <= w.heap.size) (hL : w.cell? ⟨pg, po, none⟩ = some (.slice none 0 0)) (hG : ∃ u, w.cell? ⟨pg, po + 1, none⟩ = some u) (hGf : w.frozen? ⟨pg, po + 1, none⟩ = false) (hI : w.cell? ⟨pg, po + 3, none⟩ = some (.int .i64 (id : Int))) (hP : Pw w) (h3 : pg ≠ 0) :
  Calls Tryz.prog 177 #[.pointer (some ⟨pg, po, none⟩)] w fun e w' => e = .returned (.tuple #[]) /\ ∃ v, GrowAt w pg po w.heap.size 0 id B 64 v w' := by
 obtain ⟨u, hu⟩ := hG
 obtain ⟨i0, hi, hz0, hz1, hz2⟩ := info_parts info9
 have HI := hide hi; have HZ0 := hide hz0; have HZ1 := hide hz1; have HZ2 := hide hz2
 have hpg : pg < w.heap.size := World.block_lt_of_cell? w ⟨pg, po, none⟩ hL
 have hne : pg ≠ w.heap.size := by omega
 have G0 : Hid (GrowAt w pg po w.heap.size 0 id B 0 (.slice none 0 0) (w.setCell ⟨pg, po + 1, none⟩ (.slice none 0 0))) := by
  have hgr : w.grownBy (w.setCell ⟨pg, po + 1, none⟩ (.slice none 0 0)) (some pg) := ⟨rfl, rfl, rfl, by simp [World.setCell], fun k hk hne => Below.heap_setCell _ _ _ _ (fun e => hne (by rw [e]))⟩
  exact ⟨hgr.size, rfl, rfl, rfl, fun k hk h1 h2 => hgr.block k hk (by simpa using h1), fun i hi => World.cell?_setCell_other _ _ _ _ (by intro h'; injection h' with _ h' _; exact hi h'.symm), fun i => by simp, World.cell?_setCell_same _ _ _ hu, World.ownsRow_nil _ _ _ _, .inr fun k hk => by simp [Value.ownBlock] at hk, fun k hk => by omega, fun t S hS => obj_setT hS⟩
 have HID := hide hI
 have HGF := hide hGf
 have HPW := hide hP
 clear hi hz0 hz1 hz2 hP
 go_enter Tryz.func177, Tryz.ntmps177
 go_wp2_with fail
 clear hL hI hu hGf
 go_loopw [2] (fun i wr => ∃ (j : Nat) (v : Value), j <= 64 /\ i = .int .i64 (j : Int) /\ GrowAt w pg po w.heap.size 0 id B j v wr) (fun i _ => 64 - (intOf i).toNat)
 case atStart => exact ⟨0, _, by omega, rfl, uh G0⟩
 case round =>
  obtain ⟨j, v, hj, rfl, hs⟩ := hrel
  have HS := hide hs
  clear G0
  by_cases hlt : j < 64
  ·have l1 := hs.g
   have l2 : wr.cell? ⟨pg, po + 3, none⟩ = some (.int .i64 (id : Int)) := (hs.page (po + 3) (by omega)).trans (uh HID)
   have l3 : wr.frozen? ⟨pg, po + 1, none⟩ = false := (hs.pagef (po + 1)).trans (uh HGF)
   have hI1 : (j : Int) < 64 := by omega
   have hpr : pg < wr.heap.size := Nat.lt_of_lt_of_le hpg hs.size
   have hBr : B <= wr.heap.size := Nat.le_trans hB hs.size
   have OWN := hide hs.own
   have hvn := hide (hs.ne hne hpg)
   have hbe := hide (behind_any id hid)
   have hPr := hide ((uh HPW).keep (hs.far 0 (uh HPW).lt (fun e => h3 e.symm) (fun e => by have := (uh HPW).lt; omega)))
   have hmk := hide (fun (W : World) (hW : W.heap[0]? = wr.heap[0]?) => markB id j hid (by omega) W ((uh hPr).keep hW))
   clear hs
   go_wp2_with fail
   go_region_law (first
    | (refine step_append_keep _ rfl _ _ rfl B i0 (uh HI) (uh HZ0) (uh HZ1) (uh HZ2) v (0 + j) _ rfl ((uh OWN2).alloc _) ⟨w2.heap.size, 0, none⟩ 1 1 [.string (mkS (id + 100000) j)] rfl rfl (cell_one_new _ _ _) (one_one _) (by omega) (by omega) (by simp; omega) ?_; intro g c5 w5 hown5 hgr5; have hp5 := uh hpa (.cells #[.string (mkS (id + 100000) j)] 9); have t5 := grow_farW hgr5 (uh hvn) hp5 (uh l1a _); have f5 := grow_farFW hgr5 (uh hvn) hp5 (uh l3a _); have O5 := hide hown5; have G5 := hide hgr5; clear hown5 hgr5)
    | (go_simp; go_at_call 218; refine (uh hbe _).mono ?_; rintro e w2 ⟨rfl, hw⟩; rw [hw]; clear hw w2)
    | (go_simp; go_at_call 222; refine (uh hmk wr.drew rfl).mono ?_; rintro e w2 ⟨rfl, hg⟩; have hb0 := Grn.below hg; have hb2 : Below wr.heap.size wr w2 := ⟨hb0.os, hb0.tape, hb0.output, hb0.size, hb0.block⟩; have m1 := keep1 hb2 hpr l1; have hp2 : pg < w2.heap.size := Nat.lt_of_lt_of_le hpr hb2.size; have hB2 : B <= w2.heap.size := Nat.le_trans hBr hb2.size; have m1a := fun o => (World.cell?_alloc_lt w2 o ⟨pg, po + 1, none⟩ hp2).trans m1; have l1a := hide m1a; have l3a := hide (fun o => show (w2.alloc o).frozen? ⟨pg, po + 1, none⟩ = false from ((bal (Below.refl w2.heap.size w2) o).frozen (p := ⟨pg, po + 1, none⟩) hp2).trans (keepF hb2 hpr l3)); have hpa := hide (fun o => show pg < (w2.alloc o).heap.size from (by rw [World.size_alloc]; omega)); have OWN2 := hide (own_below (uh OWN) hb2); have B2 := hide hb2; clear hg hb0 hb2))
   all_goals
    go_wp2_with fail
    have hst := (uh HS).step hne hpg (fun h => absurd h (Nat.lt_irrefl 0)) ((uh B2).alloc (uh B2).size _) (uh O5) (uh G5)
    simp only [Nat.zero_add] at hst
    refine ⟨⟨j + 1, _, by omega, by go_num, hst⟩, by simp [intOf]; omega⟩
  ·have hj64 : j = 64 := by omega
   subst hj64
   clear hs
   go_wp2_with fail
   go_end0
   exact ⟨rfl, v, uh HS⟩
end Go.Proofs.YtpeohbkigkfcgaaGreatDoor.Kt
namespace Go.Proofs.YtpeohbkigkfcgaaGreatDoor.Kt
open Go Go.ChangeShapes Go.WideShapes Go.ChangeAt Go.RowKit
theorem info68 : (Tryz.prog.info? 122).map (fun i => (i.zero.map (fun z => z.cells.size), i.size, i.bytes)) = some (some 5, 5, 88) := by kernel_rfl
theorem info68_parts : ∃ i z, Tryz.prog.info? 122 = some i /\ i.zero = some z /\ z.cells.size = 5 /\ i.size = 5 /\ i.bytes = 88 := by
 obtain ⟨i, hi, hzz⟩ := Option.map_eq_some_iff.1 info68
 simp only [Prod.mk.injEq] at hzz
 obtain ⟨z, hz, hs⟩ := Option.map_eq_some_iff.1 hzz.1
 exact ⟨i, z, hi, hz, hs, hzz.2.1, hzz.2.2⟩
theorem step_append_page {ops : Array Oper} {o : Oper} {a : Act} {K : Act -> World -> Prop} {Q : Exit -> Act -> World -> Prop} {E : Prop} (w : World) (hgd : o.guard = none) (s x : Operand)
  (ho : o.op = .call { callee := .builtin .append, args := #[s, x], argTypes := #[33, 33] })
  (base : Nat) (v : Value) (n : Nat) (xs : List Value) (hs : a.eval s = v) (hown : w.ownsRow base 122 5 v n xs)
  (ad : Addr) (c : Nat) (news : List Value) (hx : a.eval x = .slice (some ad) 1 c) (hl : news.length = 5) (hnews : ∀ j u, news[j]? = some u -> w.cell? (ad.add j) = some u) (h1 : ∀ u ∈ news, u.oneCell' = true)
  (hn : n <= 96) (hbase : base <= w.heap.size)
  (h : ∀ g cap w', w'.ownsRow base 122 5 (.slice (some ⟨g, 0, none⟩) (n + 1) cap) (n + 1) (xs ++ news) -> w.grownBy w' v.ownBlock -> (some g = v.ownBlock \/ g = w.heap.size) -> K (a.put o.dst (.slice (some ⟨g, 0, none⟩) (n + 1) cap)) w') :
  if Region.wanted o (yielded ops a.tmps) = true then Oper.wp Tryz.prog o a w K Q else E := by
 have hw : Region.wanted o (yielded ops a.tmps) = true := by simp [Region.wanted, hgd]
 rw [if_pos hw]
 obtain ⟨i, z, hi, hz, hzs, hsize, hby⟩ := info68_parts
 obtain ⟨v', w', hr, h2, h3, _, h4⟩ := run_append_own_at (P := Tryz.prog) w base 33 o.type 122 i z 5 88 Tryz.underlying33 hi hz hsize hby hzs (by decide) v n xs hown ad 1 c news (by omega) hnews h1 (by unfold maxLen; omega) (by omega) hbase
 have h5 : ∃ g cap, v' = .slice (some ⟨g, 0, none⟩) (n + 1) cap := by
  rcases h2.2 with ⟨_, h0⟩ | ⟨g, cap, cur, rfl, _⟩
  ·omega
  ·exact ⟨g, cap, rfl⟩
 obtain ⟨g, cap, rfl⟩ := h5
 unfold Oper.wp execOp
 simp only [ho, resolve, invoke, builtin, Sem.run_bind, Sem.run_pure, Result.andThen_ok, List.map_toArray, List.map_cons, List.map_nil, hs, hx, hr]
 exact h g cap w' h2 h3 (h4.imp id (fun e => by simpa [Value.ownBlock] using e))
theorem row_far {w w' : World} {B e s : Nat} {v : Value} {n : Nat} {xs : List Value} (h : w.ownsRow B e s v n xs) (hq : ∀ q, v.ownBlock = some q -> w'.heap[q]? = w.heap[q]?) : w'.ownsRow B e s v n xs := by
 refine ⟨h.1, ?_⟩
 rcases h.2 with h1 | ⟨g, cap, cur, rfl, hb, hg, rest⟩
 ·exact .inl h1
 ·exact .inr ⟨g, cap, cur, rfl, hb, (hq g rfl).trans hg, rest⟩
theorem five_new {W : World} {g : Nat} (hg : g = W.heap.size) (a b c d e : Value) (t : TypeId) : ∀ j u, ([a, b, c, d, e] : List Value)[j]? = some u -> (W.alloc (.cells #[a, b, c, d, e] t)).cell? ((⟨g, 0, none⟩ : Addr).add j) = some u := by
 intro j u hj
 subst hg
 rw [Addr.add_mid, Nat.zero_add, World.cell?_alloc_mark]
 simpa using hj
theorem below_keep {w W w5 : World} {v : Value} {g : Nat} (hb : Below w.heap.size w W) (hw : w.heap.size <= W.heap.size) (hv : ∀ k, v.ownBlock = some k -> w.heap.size <= k) (h : (v.ownBlock = some g /\ W.grownBy w5 (some g)) \/ (g = W.heap.size /\ W.grownBy w5 none)) : Below w.heap.size w w5 /\ w.heap.size <= g := by
 rcases h with ⟨h1, h2⟩ | ⟨h1, h2⟩
 ·exact ⟨hb.grown h2 hw (fun k hk => by injection hk with hk; subst hk; exact hv _ h1), hv _ h1⟩
 ·exact ⟨hb.grown h2 hw (fun k hk => by simp at hk), by omega⟩
theorem keep_one {w w5 : World} {o : Obj} {g : Nat} (h : ((Value.slice (some ⟨w.heap.size, 0, none⟩) 0 0).ownBlock = some g /\ (w.alloc o).drew.grownBy w5 (some g)) \/ (g = (w.alloc o).drew.heap.size /\ (w.alloc o).drew.grownBy w5 none)) : Below w.heap.size w w5 /\ w.heap.size <= g :=
 below_keep (v := .slice (some ⟨w.heap.size, 0, none⟩) 0 0) (bal (Below.refl _ _) o).drew (by simp) (by intro q hq; simp [Value.ownBlock] at hq; omega) h
theorem page_far {w5 w6 : World} {bk i : Nat} {o : Obj} {x u : Value} {r : Option Nat} (h : ((w5.setCell ⟨bk, 6, none⟩ x).alloc o).grownBy w6 r) (hr : ∀ q, r = some q -> q ≠ bk) (hb : bk < w5.heap.size) (hi : i ≠ 6) (hc : w5.cell? ⟨bk, i, none⟩ = some u) : w6.cell? ⟨bk, i, none⟩ = some u := by
 have h1 : ((w5.setCell ⟨bk, 6, none⟩ x).alloc o).cell? ⟨bk, i, none⟩ = some u := (World.cell?_alloc_lt _ _ _ (by simpa using hb)).trans ((World.cell?_setCell_other _ _ _ _ (by intro h'; injection h' with _ h' _; omega)).trans hc)
 exact (h.cell_far ⟨bk, i, none⟩ (by simp; omega) (by first | (intro e; exact hr bk e rfl) | (intro e; exact hr bk e.symm rfl))).trans h1
theorem page_farF {w5 w6 : World} {bk i : Nat} {o : Obj} {x : Value} {u : Bool} {r : Option Nat} (h : ((w5.setCell ⟨bk, 6, none⟩ x).alloc o).grownBy w6 r) (hr : ∀ q, r = some q -> q ≠ bk) (hb : bk < w5.heap.size) (hc : w5.frozen? ⟨bk, i, none⟩ = u) : w6.frozen? ⟨bk, i, none⟩ = u := by
 have h1 : ((w5.setCell ⟨bk, 6, none⟩ x).alloc o).frozen? ⟨bk, i, none⟩ = u := ((bal (Below.refl (w5.setCell ⟨bk, 6, none⟩ x).heap.size (w5.setCell ⟨bk, 6, none⟩ x)) o).frozen (p := ⟨bk, i, none⟩) (by simpa using hb)).trans (by simpa using hc)
 exact (h.frozen_far ⟨bk, i, none⟩ (by simp; omega) (by first | (intro e; exact hr bk e rfl) | (intro e; exact hr bk e.symm rfl))).trans h1
theorem load_far {w5 : World} {bk : Nat} {x u : Value} {o : Obj} (hb : bk < w5.heap.size) (hc : w5.cell? ⟨bk, 10, none⟩ = some u) : ((w5.setCell ⟨bk, 6, none⟩ x).alloc o).cell? ⟨bk, 10, none⟩ = some u :=
 (World.cell?_alloc_lt _ _ _ (by simpa using hb)).trans ((World.cell?_setCell_other _ _ _ _ (by intro h'; injection h' with _ h' _; omega)).trans hc)
def KeepOut (w : World) (bk k m B : Nat) (L : Value) (n : Nat) (f : Nat -> ByteArray) (old : Value) (xs : List Value) (w' : World) : Prop :=
 ∃ g6 c6 gw cw, w'.cell? ⟨bk, 6, none⟩ = some (.int .i64 ((k : Int) + 1)) /\ w'.cell? ⟨bk, 10, none⟩ = some (.slice (some ⟨g6, 0, none⟩) (m + 1) c6) /\
  w'.ownsRow B 122 5 (.slice (some ⟨g6, 0, none⟩) (m + 1) c6) (m + 1) (xs ++ [L, .slice none 0 0, .slice (some ⟨gw, 0, none⟩) n cw, .int .i64 ((k : Int) + 1), .bool false]) /\
  w'.ownsRow w.heap.size 9 1 (.slice (some ⟨gw, 0, none⟩) n cw) n (scells f n) /\ g6 ≠ bk /\ g6 ≠ gw /\ (some g6 = old.ownBlock \/ w.heap.size <= g6) /\
  (∀ i, i ≠ 6 -> i ≠ 10 -> w'.cell? ⟨bk, i, none⟩ = w.cell? ⟨bk, i, none⟩) /\ (∀ i, w'.frozen? ⟨bk, i, none⟩ = w.frozen? ⟨bk, i, none⟩) /\
  w.heap.size <= w'.heap.size /\ w'.os = w.os /\ w'.tape = w.tape /\ w'.output = w.output /\ ∀ q, q < w.heap.size -> q ≠ bk -> old.ownBlock ≠ some q -> w'.heap[q]? = w.heap[q]?
theorem keep_out {w w5 w6 : World} {bk k m B n g c5 g6 c6 : Nat} {L old u u0 : Value} {f : Nat -> ByteArray} {xs : List Value} {o : Obj} (hbk : bk < w.heap.size) (hold : ∀ q, old.ownBlock = some q -> q ≠ bk /\ q < w.heap.size)
  (G5 : Below w.heap.size w w5 /\ w.heap.size <= g) (O5 : w5.ownsRow w.heap.size 9 1 (.slice (some ⟨g, 0, none⟩) n c5) n (scells f n)) (t0 : w5.cell? ⟨bk, 6, none⟩ = some u0)
  (h5 : ∀ i, w5.frozen? ⟨bk, i, none⟩ = w.frozen? ⟨bk, i, none⟩) (t6 : w6.cell? ⟨bk, 10, none⟩ = some u) (G6 : ((w5.setCell ⟨bk, 6, none⟩ (.int .i64 ((k : Int) + 1))).alloc o).grownBy w6 old.ownBlock)
  (O6 : w6.ownsRow B 122 5 (.slice (some ⟨g6, 0, none⟩) (m + 1) c6) (m + 1) (xs ++ [L, .slice none 0 0, .slice (some ⟨g, 0, none⟩) n c5, .int .i64 ((k : Int) + 1), .bool false]))
  (A6 : some g6 = old.ownBlock \/ g6 = ((w5.setCell ⟨bk, 6, none⟩ (.int .i64 ((k : Int) + 1))).alloc o).heap.size) :
  KeepOut w bk k m B L n f old xs (w6.setCell ⟨bk, 10, none⟩ (.slice (some ⟨g6, 0, none⟩) (m + 1) c6)) := by
 obtain ⟨hb5, hg⟩ := G5
 have hs5 := hb5.size
 have hgl := (O5.lt g rfl).2
 have hsz : ((w5.setCell ⟨bk, 6, none⟩ (.int .i64 ((k : Int) + 1))).alloc o).heap.size = w5.heap.size + 1 := by simp
 rw [hsz] at A6
 have hs6 := G6.size
 rw [hsz] at hs6
 have hne6 : g6 ≠ bk := by
  rcases A6 with h | h
  ·exact (hold g6 h.symm).1
  ·omega
 have hneg : g6 ≠ g := by
  rcases A6 with h | h
  ·have := (hold g6 h.symm).2
   omega
  ·omega
 have hblk : ∀ q, q < w5.heap.size -> q ≠ bk -> some q ≠ old.ownBlock -> (w6.setCell ⟨bk, 10, none⟩ (.slice (some ⟨g6, 0, none⟩) (m + 1) c6)).heap[q]? = w5.heap[q]? := by
  intro q hq h1 h2
  rw [Below.heap_setCell _ _ _ _ h1, G6.block q (by rw [hsz]; omega) h2, Below.heap_alloc _ _ _ (by simpa using hq), Below.heap_setCell _ _ _ _ h1]
 have hcell : ∀ i, i ≠ 10 -> i ≠ 6 -> (w6.setCell ⟨bk, 10, none⟩ (.slice (some ⟨g6, 0, none⟩) (m + 1) c6)).cell? ⟨bk, i, none⟩ = w.cell? ⟨bk, i, none⟩ := by
  intro i h1 h0
  rw [World.cell?_setCell_other _ _ _ _ (by intro h'; injection h' with _ h' _; omega), G6.cell_far ⟨bk, i, none⟩ (by rw [hsz]; show bk < _; omega) (fun e => (hold bk e.symm).1 rfl), World.cell?_alloc_lt _ _ _ (by simp; omega), World.cell?_setCell_other _ _ _ _ (by intro h'; injection h' with _ h' _; omega)]
  exact World.cell?_of_block (hb5.block bk hbk)
 refine ⟨g6, c6, g, c5, ?_, World.cell?_setCell_same _ _ _ t6, row_far O6 ?_, row_far O5 ?_, hne6, hneg, A6.imp id (fun h => by omega), fun i hi hi4 => hcell i hi4 hi, fun i => ?_, by simp; omega, ?_, ?_, ?_, fun q hq h1 h2 => ?_⟩
 ·rw [World.cell?_setCell_other _ _ _ _ (by intro h'; injection h' with _ h' _; omega), G6.cell_far ⟨bk, 6, none⟩ (by rw [hsz]; show bk < _; omega) (fun e => (hold bk e.symm).1 rfl), World.cell?_alloc_lt _ _ _ (by simp; omega)]
  exact World.cell?_setCell_same _ _ _ t0
 ·intro q hq
  injection hq with hq
  have hq : g6 = q := hq
  subst hq
  exact Below.heap_setCell _ _ _ _ hne6
 ·intro q hq
  injection hq with hq
  have hq : g = q := hq
  subst hq
  exact hblk g hgl (by omega) (fun e => by have := (hold g e.symm).2; omega)
 ·rw [<- h5 i]
  have h := page_farF (i := i) G6 (fun q hq => (hold q hq).1) (by omega) rfl
  simpa using h
 ·exact (G6.os.trans hb5.os)
 ·exact (G6.tape.trans hb5.tape)
 ·exact (G6.output.trans hb5.output)
 ·rw [hblk q (by omega) h1 (fun e => h2 e.symm)]
  exact hb5.block q hq
structure Pg where
 L : Value
 n : Nat
 G : Value
 W : Value
 id : Nat
 s : Nat
 f : Nat -> ByteArray
def Pg.cells (p : Pg) : List Value := [p.L, p.G, p.W, .int .i64 (p.id : Int), .bool (decide (0 < p.s))]
def Pg.has (p : Pg) (q : Nat) : Prop := p.L.ownBlock = some q \/ p.G.ownBlock = some q \/ p.W.ownBlock = some q
def LShows (w : World) (L : Value) (n : Nat) (f : Nat -> ByteArray) : Prop := (n = 0 /\ L = .slice none 0 0) \/ ∃ gb cap, L = .slice (some ⟨gb, 0, none⟩) n cap /\ gb < w.heap.size /\ ∀ k, k < n -> w.cell? ⟨gb, k, none⟩ = some (.string (f k))
theorem LShows.of_own {w : World} {B n : Nat} {L : Value} {f : Nat -> ByteArray} (h : w.ownsRow B 9 1 L n (scells f n)) : LShows w L n f := by
 rcases h.2 with ⟨h1, h2⟩ | ⟨g, cap, cur, rfl, hb, _⟩
 ·exact .inl ⟨h2, h1⟩
 ·refine .inr ⟨g, cap, rfl, (h.lt g rfl).2, fun k hk => ?_⟩
  rw [h.cellAt k (by omega)]
  exact scells_get f n k hk
theorem LShows.far {w w' : World} {L : Value} {n : Nat} {f : Nat -> ByteArray} (h : LShows w L n f) (hz : w.heap.size <= w'.heap.size) (hq : ∀ q, L.ownBlock = some q -> w'.heap[q]? = w.heap[q]?) : LShows w' L n f := by
 rcases h with h | ⟨gb, cap, rfl, h1, h2⟩
 ·exact .inl h
 ·exact .inr ⟨gb, cap, rfl, by omega, fun k hk => (World.cell?_of_block (hq gb rfl)).trans (h2 k hk)⟩
structure Pg.OK (p : Pg) (w : World) : Prop where
 le : p.n <= 4096
 idl : p.id < 1000
 s0 : p.s = 0 -> w.ownsRow 0 9 1 p.L p.n (scells p.f p.n) /\ p.G = .slice none 0 0 /\ w.ownsRow 0 9 1 p.W p.n (scells p.f p.n) /\ (∀ q, p.L.ownBlock = some q -> p.W.ownBlock ≠ some q) /\ ∃ gw cw, p.W = .slice (some ⟨gw, 0, none⟩) p.n cw
 s1 : p.s = 1 -> w.ownsRow 0 9 1 p.L p.n (scells (mkS p.id) p.n) /\ p.G = .slice none 0 0
 s2 : p.s = 2 -> LShows w p.L p.n (mkS p.id) /\ w.ownsRow 0 9 1 p.G (p.n + 64) (scells (cat (mkS p.id) p.n (mkS (p.id + 100000))) (p.n + 64))
 s3 : p.s <= 2
theorem Pg.OK.far {p : Pg} {w w' : World} (h : p.OK w) (hz : w.heap.size <= w'.heap.size) (hq : ∀ q, p.has q -> w'.heap[q]? = w.heap[q]?) : p.OK w' :=
 ⟨h.le, h.idl, fun e => ⟨row_far (h.s0 e).1 (fun q hq' => hq q (.inl hq')), (h.s0 e).2.1, row_far (h.s0 e).2.2.1 (fun q hq' => hq q (.inr (.inr hq'))), (h.s0 e).2.2.2⟩,
  fun e => ⟨row_far (h.s1 e).1 (fun q hq' => hq q (.inl hq')), (h.s1 e).2⟩,
  fun e => ⟨(h.s2 e).1.far hz (fun q hq' => hq q (.inl hq')), row_far (h.s2 e).2 (fun q hq' => hq q (.inr (.inl hq')))⟩, h.s3⟩
def pages (p : Nat -> Pg) : Nat -> List Value
 | 0 => []
 | m + 1 => pages p m ++ (p m).cells
theorem pages_len (p : Nat -> Pg) : ∀ m, (pages p m).length = m * 5
 | 0 => rfl
 | m + 1 => by simp [pages, pages_len p m, Pg.cells]; omega
theorem pages_get (p : Nat -> Pg) (c : Nat) (hc : c < 5) : ∀ m i, i < m -> (pages p m)[i * 5 + c]? = (p i).cells[c]?
 | 0, i, h => by omega
 | m + 1, i, h => by
  by_cases e : i = m
  ·subst e
   rw [pages, List.getElem?_append_right (by rw [pages_len]; omega), pages_len]
   congr 1
   omega
  ·rw [pages, List.getElem?_append_left (by rw [pages_len]; omega)]
   exact pages_get p c hc m i (by omega)
theorem pages_ext {p p' : Nat -> Pg} : ∀ m, (∀ i, i < m -> (p i).cells = (p' i).cells) -> pages p m = pages p' m
 | 0, _ => rfl
 | m + 1, h => by rw [pages, pages, pages_ext m (fun i hi => h i (by omega)), h m (by omega)]
def upd (p : Nat -> Pg) (i : Nat) (P : Pg) : Nat -> Pg := fun j => if j = i then P else p j
theorem upd_same (p : Nat -> Pg) (i : Nat) (P : Pg) : upd p i P i = P := by simp [upd]
theorem upd_other (p : Nat -> Pg) (i j : Nat) (P : Pg) (h : j ≠ i) : upd p i P j = p j := by simp [upd, h]
theorem pages_set (p : Nat -> Pg) (i : Nat) (P : Pg) (c : Nat) (v : Value) (hc : c < 5) (hP : P.cells = (p i).cells.set c v) : ∀ m, i < m -> (pages p m).set (i * 5 + c) v = pages (upd p i P) m
 | 0, h => by omega
 | m + 1, h => by
  by_cases e : i = m
  ·subst e
   rw [pages, pages, upd_same, hP, List.set_append_right _ _ (by rw [pages_len]; omega), pages_len, pages_ext i (p' := upd p i P) (fun j hj => by rw [upd_other _ _ _ _ (by omega)])]
   congr 2
   omega
  ·rw [pages, pages, upd_other _ _ _ _ (by omega), List.set_append_left _ _ (by rw [pages_len]; omega), pages_set p i P c v hc hP m (by omega)]
structure KindAt (w : World) (bk m : Nat) (R : Value) (p : Nat -> Pg) : Prop where
 c1 : w.cell? ⟨bk, 10, none⟩ = some R
 fz : ∀ i, w.frozen? ⟨bk, i, none⟩ = false
 row : w.ownsRow 0 122 5 R m (pages p m)
 rb : R.ownBlock ≠ some bk
 ok : ∀ i, i < m -> (p i).OK w
 far : ∀ i, i < m -> ∀ q, (p i).has q -> q ≠ bk /\ R.ownBlock ≠ some q /\ q < w.heap.size
 apart : ∀ i j, i < m -> j < m -> i ≠ j -> ∀ q, (p i).has q -> ¬ (p j).has q
 tab : Pw w
 b3 : bk ≠ 0
 r3 : R.ownBlock ≠ some 0
 p3 : ∀ i, i < m -> ¬ (p i).has 0
theorem KindAt.lt {w : World} {bk m : Nat} {R : Value} {p : Nat -> Pg} (h : KindAt w bk m R p) : bk < w.heap.size := World.block_lt_of_cell? w ⟨bk, 10, none⟩ h.c1
theorem KindAt.stay {w w' : World} {bk m : Nat} {R : Value} {p : Nat -> Pg} (h : KindAt w bk m R p) (hz : w.heap.size <= w'.heap.size) (hb : w'.heap[bk]? = w.heap[bk]?) (hr : ∀ q, R.ownBlock = some q -> w'.heap[q]? = w.heap[q]?) (hp : ∀ i, i < m -> ∀ q, (p i).has q -> w'.heap[q]? = w.heap[q]?) (ht : w'.heap[0]? = w.heap[0]?) : KindAt w' bk m R p :=
 ⟨(World.cell?_of_block hb).trans h.c1, fun i => (World.frozen?_of_block hb).trans (h.fz i), row_far h.row hr, h.rb,
  fun i hi => (h.ok i hi).far hz (hp i hi), fun i hi q hq => ⟨(h.far i hi q hq).1, (h.far i hi q hq).2.1, by have := (h.far i hi q hq).2.2; omega⟩, h.apart, h.tab.keep ht, h.b3, h.r3, h.p3⟩
theorem KindAt.below {w w' : World} {bk m : Nat} {R : Value} {p : Nat -> Pg} (h : KindAt w bk m R p) (hb : Below w.heap.size w w') : KindAt w' bk m R p :=
 h.stay hb.size (hb.block _ h.lt) (fun q hq => hb.block q (h.row.lt q hq).2) (fun i hi q hq => hb.block q (h.far i hi q hq).2.2) (hb.block 0 h.tab.lt)
theorem KindAt.put {w w' : World} {bk m i : Nat} {R : Value} {p : Nat -> Pg} {P : Pg} (h : KindAt w bk m R p) (hi : i < m) (hrow : w'.ownsRow 0 122 5 R m (pages (upd p i P) m)) (hok : P.OK w') (hz : w.heap.size <= w'.heap.size)
  (hfar : ∀ q, q < w.heap.size -> R.ownBlock ≠ some q -> ¬ (p i).has q -> w'.heap[q]? = w.heap[q]?) (hhas : ∀ q, P.has q -> (p i).has q \/ w.heap.size <= q) (hlt : ∀ q, P.has q -> q < w'.heap.size) : KindAt w' bk m R (upd p i P) := by
 have hbk := h.lt
 have hb : w'.heap[bk]? = w.heap[bk]? := hfar bk hbk h.rb (fun hq => (h.far i hi bk hq).1 rfl)
 have hRlt : ∀ q, R.ownBlock = some q -> q < w.heap.size := fun q hq => (h.row.lt q hq).2
 refine ⟨(World.cell?_of_block hb).trans h.c1, fun i => (World.frozen?_of_block hb).trans (h.fz i), hrow, h.rb, fun j hj => ?_, fun j hj q hq => ?_, fun a b ha hb' hab q hq hq' => ?_, h.tab.keep (hfar 0 h.tab.lt h.r3 (h.p3 i hi)), h.b3, h.r3, fun j hj hq => ?_⟩
 ·by_cases e : j = i
  ·subst e; rw [upd_same]; exact hok
  ·rw [upd_other _ _ _ _ e]
   exact (h.ok j hj).far hz (fun q hq => hfar q (h.far j hj q hq).2.2 (h.far j hj q hq).2.1 (h.apart j i hj hi e q hq))
 ·by_cases e : j = i
  ·subst e
   rw [upd_same] at hq
   rcases hhas q hq with h' | h'
   ·exact ⟨(h.far j hj q h').1, (h.far j hj q h').2.1, hlt q hq⟩
   ·exact ⟨by omega, fun e => by have := hRlt q e; omega, hlt q hq⟩
  ·rw [upd_other _ _ _ _ e] at hq
   exact ⟨(h.far j hj q hq).1, (h.far j hj q hq).2.1, by have := (h.far j hj q hq).2.2; omega⟩
 ·by_cases e : a = i
  ·subst e
   rw [upd_same] at hq
   rw [upd_other _ _ _ _ (fun e => hab e.symm)] at hq'
   rcases hhas q hq with h' | h'
   ·exact h.apart a b ha hb' hab q h' hq'
   ·have := (h.far b hb' q hq').2.2; omega
  ·rw [upd_other _ _ _ _ e] at hq
   by_cases e' : b = i
   ·subst e'
    rw [upd_same] at hq'
    rcases hhas q hq' with h' | h'
    ·exact h.apart a b ha hb' hab q hq h'
    ·have := (h.far a ha q hq).2.2; omega
   ·rw [upd_other _ _ _ _ e'] at hq'
    exact h.apart a b ha hb' hab q hq hq'
 ·by_cases e : j = i
  ·subst e
   rw [upd_same] at hq
   rcases hhas 0 hq with h' | h'
   ·exact h.p3 j hj h'
   ·have := h.tab.lt; omega
  ·rw [upd_other _ _ _ _ e] at hq
   exact h.p3 j hj hq
theorem KindAt.push {w w' : World} {bk m : Nat} {R R' : Value} {p : Nat -> Pg} {P : Pg} (h : KindAt w bk m R p) (c1 : w'.cell? ⟨bk, 10, none⟩ = some R') (cf : ∀ i, w'.frozen? ⟨bk, i, none⟩ = w.frozen? ⟨bk, i, none⟩)
  (hrow : w'.ownsRow 0 122 5 R' (m + 1) (pages p m ++ P.cells)) (hR : ∀ q, R'.ownBlock = some q -> q ≠ bk /\ ¬ P.has q /\ (R.ownBlock = some q \/ w.heap.size <= q)) (hok : P.OK w') (hz : w.heap.size <= w'.heap.size)
  (hfar : ∀ i, i < m -> ∀ q, (p i).has q -> w'.heap[q]? = w.heap[q]?) (hP : ∀ q, P.has q -> q ≠ bk /\ q < w'.heap.size /\ ∀ i, i < m -> ¬ (p i).has q) (ht : w'.heap[0]? = w.heap[0]?) (hP3 : ¬ P.has 0) : KindAt w' bk (m + 1) R' (upd p m P) := by
 have hin : ∀ j, j < m + 1 -> j ≠ m -> j < m := fun j h1 h2 => by omega
 refine ⟨c1, fun i => (cf i).trans (h.fz i), ?_, fun e => (hR bk e).1 rfl, fun j hj => ?_, fun j hj q hq => ?_, fun a b ha hb' hab q hq hq' => ?_, h.tab.keep ht, h.b3, fun e => (hR 0 e).2.2.elim h.r3 (fun h' => by have := h.tab.lt; omega), fun j hj hq => ?_⟩
 ·rw [pages, upd_same, pages_ext m (p' := p) (fun j hj => by rw [upd_other _ _ _ _ (by omega)])]
  exact hrow
 ·by_cases e : j = m
  ·subst e; rw [upd_same]; exact hok
  ·rw [upd_other _ _ _ _ e]
   exact (h.ok j (hin j hj e)).far hz (fun q hq => hfar j (hin j hj e) q hq)
 ·by_cases e : j = m
  ·subst e
   rw [upd_same] at hq
   exact ⟨(hP q hq).1, fun e => (hR q e).2.1 hq, (hP q hq).2.1⟩
  ·rw [upd_other _ _ _ _ e] at hq
   have hf := h.far j (hin j hj e) q hq
   exact ⟨hf.1, fun e => by rcases (hR q e).2.2 with h' | h'; exact hf.2.1 h'; omega, by omega⟩
 ·by_cases e : a = m
  ·subst e
   rw [upd_same] at hq
   rw [upd_other _ _ _ _ (fun e => hab e.symm)] at hq'
   exact (hP q hq).2.2 b (hin b hb' (fun e => hab e.symm)) hq'
  ·rw [upd_other _ _ _ _ e] at hq
   by_cases e' : b = m
   ·subst e'
    rw [upd_same] at hq'
    exact (hP q hq').2.2 a (hin a ha e) hq
   ·rw [upd_other _ _ _ _ e'] at hq'
    exact h.apart a b (hin a ha e) (hin b hb' e') hab q hq hq'
 ·by_cases e : j = m
  ·subst e
   rw [upd_same] at hq
   exact hP3 hq
  ·rw [upd_other _ _ _ _ e] at hq
   exact h.p3 j (hin j hj e) hq
structure Rest (w w' : World) (R : Value) (p : Nat -> Pg) (m : Nat) : Prop where
 size : w.heap.size <= w'.heap.size
 os : w'.os = w.os
 tape : w'.tape = w.tape
 output : w'.output = w.output
 block : ∀ q, q < w.heap.size -> R.ownBlock ≠ some q -> (∀ i, i < m -> ¬ (p i).has q) -> w'.heap[q]? = w.heap[q]?
theorem Rest.refl (w : World) (R : Value) (p : Nat -> Pg) (m : Nat) : Rest w w R p m := ⟨Nat.le_refl _, rfl, rfl, rfl, fun _ _ _ _ => rfl⟩
theorem Rest.trans {w w1 w' : World} {R : Value} {p p' : Nat -> Pg} {m : Nat} (h : Rest w w1 R p m) (h' : Rest w1 w' R p' m) (hhas : ∀ i, i < m -> ∀ q, (p' i).has q -> (p i).has q \/ w.heap.size <= q) : Rest w w' R p m :=
 ⟨Nat.le_trans h.size h'.size, h'.os.trans h.os, h'.tape.trans h.tape, h'.output.trans h.output, fun q h1 h2 h3 => (h'.block q (Nat.lt_of_lt_of_le h1 h.size) h2 (fun i hi hq => by rcases hhas i hi q hq with h4 | h4; exact h3 i hi h4; omega)).trans (h.block q h1 h2 h3)⟩
end Go.Proofs.YtpeohbkigkfcgaaGreatDoor.Kt
namespace Go.Proofs.YtpeohbkigkfcgaaGreatDoor.Kt
open Go Go.ChangeShapes Go.WideShapes Go.ChangeAt Go.RowKit
attribute [local go_sem] setCell_drewN alloc_drewN
theorem shows_page (p : Pg) (w : World) (h : p.OK w) (hs : p.s ≠ 1) (hP : Pw w) : Calls Tryz.prog 126 #[.agg #[p.L, p.G, p.W, .int .i64 (p.id : Int), .bool (decide (0 < p.s))]] w fun e w' => e = .returned (.bool true) /\ Below w.heap.size w w' := by
 obtain ⟨L, n, G, W, id, s, f⟩ := p
 have hle := h.le
 have hid := h.idl
 have h3 := h.s3
 simp only at hs hle hid h3
 have hcase : s = 0 \/ s = 2 := by omega
 rcases hcase with rfl | rfl
 ·obtain ⟨h1, h2, h4, _, gw, cw, h5⟩ := h.s0 rfl
  simp only at h1 h2 h4 h5
  subst h2 h5
  rcases LShows.of_own h1 with ⟨rfl, rfl⟩ | ⟨gb, cap, rfl, hlt, hc⟩
  ·exact shows_bare _ _ _
  ·refine shows_kept f gb gw n cap cw id hle w (fun _ => hlt) (fun _ => (h4.lt gw rfl).2) (hide hc) (hide fun k hk => ?_)
   rw [h4.cellAt k (by omega)]
   exact scells_get f n k hk
 ·obtain ⟨h1, h2⟩ := h.s2 rfl
  simp only at h1 h2
  obtain ⟨g, c, hv⟩ := own_open h2 (by omega)
  subst hv
  rcases h1 with ⟨rfl, rfl⟩ | ⟨gb, cap, rfl, hlt, hc⟩
  ·have hd : ∀ k, k < 64 -> w.cell? ⟨g, k, none⟩ = some (.string (mkS (id + 100000) k)) := fun k hk => by
    rw [h2.cellAt k (by omega), scells_get _ _ _ (by omega)]
    have e := cat_ge (f := mkS id) (g := mkS (id + 100000)) (n := 0) k
    rw [Nat.zero_add] at e
    rw [e]
   have := shows_done0 g c id W hid w hP (h2.lt g rfl).2 (hide hd)
   rw [Nat.zero_add]
   exact this
  ·refine shows_done gb g n cap c id W hle hid w hP hlt (h2.lt g rfl).2 (hide hc) (hide fun k hk => ?_)
   rw [h2.cellAt k (by omega)]
   exact scells_get _ _ k hk
theorem KindAt.cell {w : World} {bk m g6 c6 : Nat} {p : Nat -> Pg} (h : KindAt w bk m (.slice (some ⟨g6, 0, none⟩) m c6) p) (i : Nat) (hi : i < m) (c : Nat) (hc : c < 5) : w.cell? ⟨g6, i * 5 + c, none⟩ = (p i).cells[c]? := by
 rw [h.row.cellAt (i * 5 + c) (by omega)]
 exact pages_get p c hc m i hi
theorem intact_book {w : World} {bk m : Nat} {R : Value} {p : Nat -> Pg} (h : KindAt w bk m R p) (hm : m <= 96) (hs : ∀ i, i < m -> (p i).s ≠ 1) : Calls Tryz.prog 21 #[.pointer (some ⟨bk, 6, none⟩)] w fun e w' => e = .returned (.bool true) /\ Below w.heap.size w w' := by
 have HB := hide h
 have HS := hide hs
 have hR : ∃ pa pc, R = .slice pa m pc /\ (0 < m -> ∃ g6, pa = some ⟨g6, 0, none⟩) := by
  rcases h.row.2 with ⟨h1, h2⟩ | ⟨g, c, cur, h1, _⟩
  ·exact ⟨none, 0, by rw [h1, h2], fun h => by omega⟩
  ·exact ⟨_, c, h1, fun _ => ⟨g, rfl⟩⟩
 obtain ⟨pa, pc, rfl, hpa⟩ := hR
 have HPA := hide hpa
 have hc1 := h.c1
 clear h hs hpa
 go_enter Tryz.func21, Tryz.ntmps21
 go_wp2_with fail
 go_loopw [3] (fun i wr => ∃ (j : Nat), j <= m /\ i = .int .i64 (j : Int) /\ Below w.heap.size w wr) (fun i _ => m - (intOf i).toNat)
 case atStart => exact ⟨0, by omega, rfl, Below.refl _ _⟩
 case round =>
  obtain ⟨j, hj, rfl, hb⟩ := hrel
  have hbr := (uh HB).below hb
  have l1 := hbr.c1
  have HBE := hide hb
  clear hc1
  by_cases hlt : j < m
  ·obtain ⟨g6, rfl⟩ := uh HPA (by omega)
   have a0 := hbr.cell j hlt 0 (by omega)
   have a1 := hbr.cell j hlt 1 (by omega)
   have a2 := hbr.cell j hlt 2 (by omega)
   have a3 := hbr.cell j hlt 3 (by omega)
   have a4 := hbr.cell j hlt 4 (by omega)
   simp only [Pg.cells, List.getElem?_cons_zero, List.getElem?_cons_succ, Nat.add_zero] at a0 a1 a2 a3 a4
   have hsh := hide (shows_page (p j) wr (hbr.ok j hlt) (uh HS j hlt) hbr.tab)
   have hI : (j : Int) < (m : Int) := by omega
   have hI0 : (0 : Int) <= (j : Int) := by omega
   clear hbr hb
   go_wp2_with fail
   refine (uh hsh).mono ?_
   rintro e w2 ⟨rfl, hb2⟩
   have HB2 := hide hb2
   clear hb2
   go_wp2_with fail
   refine ⟨⟨j + 1, by omega, by go_num, ?_⟩, by simp [intOf]; omega⟩
   exact (uh HBE).trans ((uh HB2).mono (uh HBE).size)
  ·have hjm : j = m := by omega
   subst hjm
   have hI : ¬ (j : Int) < (j : Int) := by omega
   clear hbr hb
   go_wp2_with fail
   go_ret
   exact ⟨rfl, uh HBE⟩
end Go.Proofs.YtpeohbkigkfcgaaGreatDoor.Kt
