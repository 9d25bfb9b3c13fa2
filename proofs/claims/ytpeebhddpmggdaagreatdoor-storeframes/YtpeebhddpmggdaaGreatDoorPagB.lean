/- A page of the keeper: shows (211). -/
import Derived.Test.YtpeebhddpmggdaaGreatDoorPagA
namespace Go.Proofs.YtpeebhddpmggdaaGreatDoor
open Go Go.ChangeShapes Go.WideShapes Go.ChangeAt Go.RowKit
set_option linter.unusedVariables false
attribute [local go_sem] setCell_drewN alloc_drewN
/-- a page laid out in a block -/
structure PgAt (w : World) (b : Nat) (L G S : Value) (id : Nat) (d : Bool) : Prop where
  a0 : w.cell? ⟨b, 0, none⟩ = some L
  a1 : w.cell? ⟨b, 1, none⟩ = some G
  a2 : w.cell? ⟨b, 2, none⟩ = some S
  a3 : w.cell? ⟨b, 3, none⟩ = some (.int .i64 (id : Int))
  a4 : w.cell? ⟨b, 4, none⟩ = some (.bool d)
theorem PgAt.new (w : World) (L G S : Value) (id : Nat) (d : Bool) : PgAt (w.alloc (.cells #[L, G, S, .int .i64 (id : Int), .bool d] 125)) w.heap.size L G S id d := ⟨by simp, by simp, by simp, by simp, by simp⟩
theorem PgAt.drewN {w : World} {b id m : Nat} {L G S : Value} {d : Bool} (h : PgAt w b L G S id d) : PgAt (w.drewN m) b L G S id d := ⟨h.a0, h.a1, h.a2, h.a3, h.a4⟩
set_option maxRecDepth 100000 in
set_option maxHeartbeats 2000000 in
theorem shows_kept (f : Nat → Nat) (gb gc n cb cc id : Nat) (hn : n ≤ 4096) (w : World) (hb : 0 < n → gb < w.heap.size) (hb' : 0 < n → gc < w.heap.size) (hc : Hid (∀ k, k < n → w.cell? ⟨gb, k, none⟩ = some (.int .u8 (f k : Int)))) (hd : Hid (∀ k, k < n → w.cell? ⟨gc, k, none⟩ = some (.int .u8 (f k : Int)))) :
    Calls Tryz.prog 211 #[.agg #[.slice (some ⟨gb, 0, none⟩) n cb, .slice none 0 0, .slice (some ⟨gc, 0, none⟩) n cc, .int .i64 (id : Int), .bool false]] w fun e w' => e = .returned (.bool true) ∧ Below w.heap.size w w' := by
  have PG := hide (PgAt.new w (.slice (some ⟨gb, 0, none⟩) n cb) (.slice none 0 0) (.slice (some ⟨gc, 0, none⟩) n cc) id false)
  have hc0 := hide (fun o k (hk : k < n) => (World.cell?_alloc_lt w o ⟨gb, k, none⟩ (hb (by omega))).trans (unhide hc k hk))
  have hd0 := hide (fun o k (hk : k < n) => (World.cell?_alloc_lt w o ⟨gc, k, none⟩ (hb' (by omega))).trans (unhide hd k hk))
  go_enter Tryz.func211, Tryz.ntmps211
  go_wp2_with fail
  go_loopw [4] (fun i wr => ∃ (k m : Nat), k ≤ n ∧ i = .int .i64 (k : Int) ∧ wr = (w.alloc (.cells #[.slice (some ⟨gb, 0, none⟩) n cb, .slice none 0 0, .slice (some ⟨gc, 0, none⟩) n cc, .int .i64 (id : Int), .bool false] 125)).drewN m) (fun i _ => n - (intOf i).toNat)
  case atStart => exact ⟨0, 0, by omega, rfl, rfl⟩
  case round =>
    obtain ⟨k, m, hk, rfl, hw⟩ := hrel
    have HW := hide hw
    have pg : PgAt wr w.heap.size (.slice (some ⟨gb, 0, none⟩) n cb) (.slice none 0 0) (.slice (some ⟨gc, 0, none⟩) n cc) id false := by rw [hw]; exact (unhide PG).drewN
    have p0 := pg.a0
    have p1 := pg.a1
    have p2 := pg.a2
    have p3 := pg.a3
    have p4 := pg.a4
    by_cases hlt : k < n
    · have h1 : wr.cell? ⟨gb, k, none⟩ = some (.int .u8 (f k : Int)) := by rw [hw]; exact unhide hc0 _ k hlt
      have h2 : wr.cell? ⟨gc, k, none⟩ = some (.int .u8 (f k : Int)) := by rw [hw]; exact unhide hd0 _ k hlt
      have hI : (k : Int) < (n : Int) := by omega
      have hI0 : (0 : Int) ≤ (k : Int) := by omega
      clear hw hc hd hc0 hd0 pg PG
      go_wp2_with fail
      go_quiet (first | (go_at_call 55; refine Calls.quiet_of_same (same8 _ _)))
      go_wp2_with fail
      go_quiet (fail)
      go_wp2_with fail
      go_roundw
      case rel => exact ⟨k + 1, _, by omega, by go_num, by rw [unhide HW]; exact drew_two _ _ _⟩
      case measure => simp [intOf]; omega
    · have hkn : k = n := by omega
      subst hkn
      have hI : ¬ (k : Int) < (k : Int) := by omega
      clear hw hc hd hc0 hd0 pg PG
      go_wp2_with fail
      go_loopw [5] (fun i ww => i = .int .i64 (k : Int) ∧ ww = wr) (fun i _ => 0)
      case atStart => exact ⟨rfl, rfl⟩
      case round =>
        obtain ⟨rfl, rfl⟩ := hrel
        have hJ : ¬ (k : Int) < 0 := by omega
        go_wp2_with fail
        go_ret
        exact ⟨rfl, by rw [unhide HW]; exact below_drewN (bal (Below.refl _ _) _) m⟩
set_option maxHeartbeats 1000000 in
theorem behind_any (id : Nat) (hid : id < 1000) (w : World) : Calls Tryz.prog 128 #[.int .i64 (id : Int)] w fun e w' => e = .returned (.int .i64 ((id + 100000 : Nat) : Int)) ∧ w' = w := by
  go_enter Tryz.func128, Tryz.ntmps128
  go_wp2_with fail
  go_ret
  exact ⟨by simp, rfl⟩
set_option maxRecDepth 100000 in
set_option maxHeartbeats 4000000 in
theorem shows_done (gb gc n cb cc id : Nat) (S : Value) (hn : n ≤ 4096) (hid : id < 1000) (w : World) (hb : 0 < n → gb < w.heap.size) (hb' : gc < w.heap.size) (hc : Hid (∀ k, k < n → w.cell? ⟨gb, k, none⟩ = some (.int .u8 (patN id k : Int)))) (hd : Hid (∀ k, k < n + 64 → w.cell? ⟨gc, k, none⟩ = some (.int .u8 (cat (patN id) n (patN (id + 100000)) k : Int)))) :
    Calls Tryz.prog 211 #[.agg #[.slice (some ⟨gb, 0, none⟩) n cb, .slice (some ⟨gc, 0, none⟩) (n + 64) cc, S, .int .i64 (id : Int), .bool true]] w fun e w' => e = .returned (.bool true) ∧ Below w.heap.size w w' := by
  have PG := hide (PgAt.new w (.slice (some ⟨gb, 0, none⟩) n cb) (.slice (some ⟨gc, 0, none⟩) (n + 64) cc) S id true)
  have hc0 := hide (fun o k (hk : k < n) => (World.cell?_alloc_lt w o ⟨gb, k, none⟩ (hb (by omega))).trans (unhide hc k hk))
  have hd0 := hide (fun o k (hk : k < n + 64) => (World.cell?_alloc_lt w o ⟨gc, k, none⟩ hb').trans (unhide hd k hk))
  go_enter Tryz.func211, Tryz.ntmps211
  go_wp2_with fail
  go_loopw [4] (fun i wr => ∃ (k m : Nat), k ≤ n ∧ i = .int .i64 (k : Int) ∧ wr = (w.alloc (.cells #[.slice (some ⟨gb, 0, none⟩) n cb, .slice (some ⟨gc, 0, none⟩) (n + 64) cc, S, .int .i64 (id : Int), .bool true] 125)).drewN m) (fun i _ => n - (intOf i).toNat)
  case atStart => exact ⟨0, 0, by omega, rfl, rfl⟩
  case round =>
    obtain ⟨k, m, hk, rfl, hw⟩ := hrel
    have HW := hide hw
    have pg : PgAt wr w.heap.size (.slice (some ⟨gb, 0, none⟩) n cb) (.slice (some ⟨gc, 0, none⟩) (n + 64) cc) S id true := by rw [hw]; exact (unhide PG).drewN
    have p0 := pg.a0
    have p1 := pg.a1
    have p3 := pg.a3
    have p4 := pg.a4
    by_cases hlt : k < n
    · have h1 : wr.cell? ⟨gb, k, none⟩ = some (.int .u8 (patN id k : Int)) := by rw [hw]; exact unhide hc0 _ k hlt
      have h2 : wr.cell? ⟨gc, k, none⟩ = some (.int .u8 (patN id k : Int)) := by rw [hw, ← cat_lt (f := patN id) (g := patN (id + 100000)) hlt]; exact unhide hd0 _ k (by omega)
      have hI : (k : Int) < (n : Int) := by omega
      have hI0 : (0 : Int) ≤ (k : Int) := by omega
      have hI1 : (k : Int) < (n : Int) + 64 := by omega
      have hJ : (0 : Int) < (n : Int) + 64 := by omega
      clear hw hc hd hc0 hd0 pg PG
      go_wp2_with fail
      go_quiet (fail)
      go_wp2_with fail
      generalize hz : wr.drewN nq = wz
      have HZ := hide hz
      have q0 : wz.cell? ⟨w.heap.size, 0, none⟩ = some (.slice (some ⟨gb, 0, none⟩) n cb) := by rw [← hz]; exact p0
      have q1 : wz.cell? ⟨w.heap.size, 1, none⟩ = some (.slice (some ⟨gc, 0, none⟩) (n + 64) cc) := by rw [← hz]; exact p1
      have q3 : wz.cell? ⟨w.heap.size, 3, none⟩ = some (.int .i64 (id : Int)) := by rw [← hz]; exact p3
      have q4 : wz.cell? ⟨w.heap.size, 4, none⟩ = some (.bool true) := by rw [← hz]; exact p4
      have z1 : wz.cell? ⟨gb, k, none⟩ = some (.int .u8 (patN id k : Int)) := by rw [← hz]; exact h1
      have z2 : wz.cell? ⟨gc, k, none⟩ = some (.int .u8 (patN id k : Int)) := by rw [← hz]; exact h2
      clear hz p0 p1 p3 p4 h1 h2
      go_quiet (first | (go_at_call 55; refine Calls.quiet_of_same (same8 _ _)) | (go_at_call 51; refine Calls.quiet_of_same (mark_any id k (by omega) (by omega) _)))
      go_wp2_with fail
      go_roundw
      case rel => exact ⟨k + 1, _, by omega, by go_num, by rw [← unhide HZ, unhide HW, drew_two, drew_two]⟩
      case measure => simp [intOf]; omega
    · have hkn : k = n := by omega
      subst hkn
      have hI : ¬ (k : Int) < (k : Int) := by omega
      have hdk := hide (fun j (hj : j < k + 64) => show wr.cell? ⟨gc, j, none⟩ = some (.int .u8 (cat (patN id) k (patN (id + 100000)) j : Int)) from by rw [hw]; exact unhide hd0 _ j hj)
      clear hw hc hc0 pg hd hd0 PG
      obtain ⟨wy, rfl⟩ : ∃ x, x = wr := ⟨wr, rfl⟩
      have P1 := hide p1
      have P3 := hide p3
      clear p0 p3 p4
      go_wp2_with fail
      clear p1
      go_loopw [5] (fun i ww => ∃ (j q : Nat) (K : Int), j ≤ 64 ∧ i = .int .i64 K ∧ K = (k : Int) + (j : Int) ∧ ww = wy.drewN q) (fun i _ => ((k : Int) + 64 - intOf i).toNat)
      case atStart => exact ⟨0, 0, (k : Int), by omega, rfl, by omega, rfl⟩
      case round =>
        obtain ⟨j, q, K, hj, rfl, hK, hq⟩ := hrel
        have HQ := hide hq
        have HK := hide hK
        have q1 : wr.cell? ⟨w.heap.size, 1, none⟩ = some (.slice (some ⟨gc, 0, none⟩) (k + 64) cc) := by rw [hq]; exact unhide P1
        have q3 : wr.cell? ⟨w.heap.size, 3, none⟩ = some (.int .i64 (id : Int)) := by rw [hq]; exact unhide P3
        have hK0 : 0 ≤ K := by omega
        by_cases hlj : j < 64
        · have hI2 : K < (k : Int) + 64 := by omega
          have hKt : K.toNat = k + j := by omega
          have hKj : K - (k : Int) = (j : Int) := by omega
          have z1 : wr.cell? ⟨gc, k + j, none⟩ = some (.int .u8 (patN (id + 100000) j : Int)) := by
            have := unhide hdk (k + j) (by omega)
            rw [cat_ge] at this
            rw [hq]
            exact this
          have hbe := hide (behind_any id hid)
          have hmk := hide (mark_any (id + 100000) j (by omega) (by omega))
          clear hq hK hdk
          go_wp2_with fail
          go_quiet (first | (go_at_call 55; refine Calls.quiet_of_same (same8 _ _)) | (go_at_call 51; refine Calls.quiet_of_same (unhide hmk _)) | (go_at_call 128; refine Calls.quiet_of_same (unhide hbe _)))
          go_wp2_with fail
          go_roundw
          case rel => exact ⟨j + 1, _, K + 1, by omega, by go_num, by have := unhide HK; omega, by rw [unhide HQ]; exact drew_two _ _ _⟩
          case measure => have := unhide HK; simp [intOf]; omega
        · have hI2 : ¬ K < (k : Int) + 64 := by omega
          clear hq hK hdk
          go_wp2_with fail
          go_ret
          exact ⟨rfl, by rw [unhide HQ, unhide HW, drew_two]; exact below_drewN (bal (Below.refl _ _) _) _⟩
set_option maxRecDepth 100000 in
set_option maxHeartbeats 2000000 in
theorem shows_bare (S : Value) (id : Nat) (w : World) :
    Calls Tryz.prog 211 #[.agg #[.slice none 0 0, .slice none 0 0, S, .int .i64 (id : Int), .bool false]] w fun e w' => e = .returned (.bool true) ∧ Below w.heap.size w w' := by
  go_enter Tryz.func211, Tryz.ntmps211
  go_wp2_with fail
  go_loopw [4] (fun i wr => i = .int .i64 0 ∧ wr = w.alloc (.cells #[.slice none 0 0, .slice none 0 0, S, .int .i64 (id : Int), .bool false] 125)) (fun i _ => 0)
  case atStart => exact ⟨rfl, rfl⟩
  case round =>
    obtain ⟨rfl, rfl⟩ := hrel
    go_wp2_with fail
    go_loopw [5] (fun i ww => i = .int .i64 0 ∧ ww = w.alloc (.cells #[.slice none 0 0, .slice none 0 0, S, .int .i64 (id : Int), .bool false] 125)) (fun i _ => 0)
    case atStart => exact ⟨rfl, rfl⟩
    case round =>
      obtain ⟨rfl, rfl⟩ := hrel
      go_wp2_with fail
      go_ret
      exact ⟨rfl, bal (Below.refl _ _) _⟩
set_option maxRecDepth 100000 in
set_option maxHeartbeats 4000000 in
theorem shows_done0 (gc cc id : Nat) (S : Value) (hid : id < 1000) (w : World) (hb' : gc < w.heap.size) (hd : Hid (∀ k, k < 64 → w.cell? ⟨gc, k, none⟩ = some (.int .u8 (patN (id + 100000) k : Int)))) :
    Calls Tryz.prog 211 #[.agg #[.slice none 0 0, .slice (some ⟨gc, 0, none⟩) 64 cc, S, .int .i64 (id : Int), .bool true]] w fun e w' => e = .returned (.bool true) ∧ Below w.heap.size w w' := by
  have PG := hide (PgAt.new w (.slice none 0 0) (.slice (some ⟨gc, 0, none⟩) 64 cc) S id true)
  have hd0 := hide (fun o k (hk : k < 64) => (World.cell?_alloc_lt w o ⟨gc, k, none⟩ hb').trans (unhide hd k hk))
  go_enter Tryz.func211, Tryz.ntmps211
  go_wp2_with fail
  go_loopw [4] (fun i wr => i = .int .i64 0 ∧ wr = w.alloc (.cells #[.slice none 0 0, .slice (some ⟨gc, 0, none⟩) 64 cc, S, .int .i64 (id : Int), .bool true] 125)) (fun i _ => 0)
  case atStart => exact ⟨rfl, rfl⟩
  case round =>
    obtain ⟨rfl, hw⟩ := hrel
    have HW := hide hw
    have pg : PgAt wr w.heap.size (.slice none 0 0) (.slice (some ⟨gc, 0, none⟩) 64 cc) S id true := by rw [hw]; exact unhide PG
    have p1 := pg.a1
    have hdk := hide (fun j (hj : j < 64) => show wr.cell? ⟨gc, j, none⟩ = some (.int .u8 (patN (id + 100000) j : Int)) from by rw [hw]; exact unhide hd0 _ j hj)
    have P1 := hide p1
    have P3 := hide pg.a3
    clear hw hd hd0 PG pg
    obtain ⟨wy, rfl⟩ : ∃ x, x = wr := ⟨wr, rfl⟩
    go_wp2_with fail
    clear p1
    go_loopw [5] (fun i ww => ∃ (j q : Nat) (K : Int), j ≤ 64 ∧ i = .int .i64 K ∧ K = (j : Int) ∧ ww = wy.drewN q) (fun i _ => (64 - intOf i).toNat)
    case atStart => exact ⟨0, 0, 0, by omega, rfl, rfl, rfl⟩
    case round =>
      obtain ⟨j, q, K, hj, rfl, hK, hq⟩ := hrel
      have HQ := hide hq
      have HK := hide hK
      have q1 : wr.cell? ⟨w.heap.size, 1, none⟩ = some (.slice (some ⟨gc, 0, none⟩) 64 cc) := by rw [hq]; exact unhide P1
      have q3 : wr.cell? ⟨w.heap.size, 3, none⟩ = some (.int .i64 (id : Int)) := by rw [hq]; exact unhide P3
      have hK0 : 0 ≤ K := by omega
      by_cases hlj : j < 64
      · have hI2 : K < 64 := by omega
        have hKt : K.toNat = j := by omega
        have z1 : wr.cell? ⟨gc, j, none⟩ = some (.int .u8 (patN (id + 100000) j : Int)) := by rw [hq]; exact unhide hdk j hlj
        have hbe := hide (behind_any id hid)
        have hmk := hide (show ∀ W, Calls Tryz.prog 51 #[.int .i64 ((id + 100000 : Nat) : Int), .int .i64 K] W fun e w' => e = .returned (.int .u8 (patN (id + 100000) j : Int)) ∧ w' = W from fun W => by rw [hK]; exact mark_any (id + 100000) j (by omega) (by omega) W)
        clear hq hK hdk
        go_wp2_with fail
        go_quiet (first | (go_at_call 55; refine Calls.quiet_of_same (same8 _ _)) | (go_at_call 51; refine Calls.quiet_of_same (unhide hmk _)) | (go_at_call 128; refine Calls.quiet_of_same (unhide hbe _)))
        go_wp2_with fail
        go_roundw
        case rel => exact ⟨j + 1, _, K + 1, by omega, by go_num, by have := unhide HK; omega, by rw [unhide HQ]; exact drew_two _ _ _⟩
        case measure => have := unhide HK; simp [intOf]; omega
      · have hI2 : ¬ K < 64 := by omega
        clear hq hK hdk
        go_wp2_with fail
        go_ret
        exact ⟨rfl, by rw [unhide HQ, unhide HW]; exact below_drewN (bal (Below.refl _ _) _) _⟩
end Go.Proofs.YtpeebhddpmggdaaGreatDoor
