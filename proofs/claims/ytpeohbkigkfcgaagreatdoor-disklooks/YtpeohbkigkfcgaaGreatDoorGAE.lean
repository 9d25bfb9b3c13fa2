import Derived.Test.YtpeohbkigkfcgaaGreatDoorGAD
import Derived.Laws.AppendOwn
import Derived.Laws.AppendOwnNone
import Derived.Laws.OwnMore
import Derived.Deep.AppendLies
import Derived.Deep.MidRow
import Derived.Laws.MakeOwn
import Derived.Laws.BitsAll
import Derived.Deep.RegionHeld3
import Derived.Deep.RegionHeldLaw
set_option linter.unusedVariables false
set_option linter.unusedSimpArgs false
set_option maxRecDepth 100000
set_option maxHeartbeats 16000000
namespace Go.Proofs.YtpeohbkigkfcgaaGreatDoor.Kp
open Go Go.ChangeShapes Go.WideShapes Go.ChangeAt Go.RowKit
def bcells (f : Nat -> Nat) (n : Nat) : List Value := (List.range n).map fun i => .int .u8 (f i : Int)
theorem bcells_len (f : Nat -> Nat) (n : Nat) : (bcells f n).length = n := by simp [bcells]
theorem bcells_succ (f : Nat -> Nat) (n : Nat) : bcells f (n + 1) = bcells f n ++ [.int .u8 (f n : Int)] := by simp [bcells, List.range_succ]
theorem bcells_get (f : Nat -> Nat) (n j : Nat) (h : j < n) : (bcells f n)[j]? = some (.int .u8 (f j : Int)) := by simp [bcells, h]
theorem bcells_get' {f : Nat -> Nat} {n j : Nat} {u : Value} (h : (bcells f n)[j]? = some u) : j < n /\ u = .int .u8 (f j : Int) := by
 by_cases hj : j < n
 ·rw [bcells_get f n j hj] at h
  exact ⟨hj, (Option.some.inj h).symm⟩
 ·rw [List.getElem?_eq_none (by rw [bcells_len]; omega)] at h
  cases h
theorem bcells_one (f : Nat -> Nat) (n : Nat) : ∀ u ∈ bcells f n, u.oneCell' = true := by
 intro u hu
 simp only [bcells, List.mem_map] at hu
 obtain ⟨i, _, rfl⟩ := hu
 rfl
theorem bcells_ext {f g : Nat -> Nat} (n : Nat) (h : ∀ i, i < n -> f i = g i) : bcells f n = bcells g n := by
 induction n with
 | zero => rfl
 | succ n ih => rw [bcells_succ, bcells_succ, ih (fun i hi => h i (by omega)), h n (by omega)]
def cat (f : Nat -> Nat) (n : Nat) (g : Nat -> Nat) : Nat -> Nat := fun i => if i < n then f i else g (i - n)
theorem cat_lt {f g : Nat -> Nat} {n i : Nat} (h : i < n) : cat f n g i = f i := by simp [cat, h]
theorem cat_ge {f g : Nat -> Nat} {n : Nat} (i : Nat) : cat f n g (n + i) = g i := by
 have : ¬ n + i < n := by omega
 simp only [cat, if_neg this, Nat.add_sub_cancel_left]
def BLies (f : Nat -> Nat) (v : Value) (n : Nat) (W : World) : Prop :=
 (n = 0 /\ v = .slice none 0 0) \/ ∃ b off cap, v = .slice (some ⟨b, off, none⟩) n cap /\ (0 < n -> b < W.heap.size) /\ ∀ k, k < n -> W.cell? ⟨b, off + k, none⟩ = some (.int .u8 (f k : Int))
theorem one_one (a : Int) : ∀ u ∈ ([.int .u8 a] : List Value), u.oneCell' = true := by
 intro u hu
 simp only [List.mem_cons, List.not_mem_nil, or_false] at hu
 rcases hu with rfl
 rfl
end Go.Proofs.YtpeohbkigkfcgaaGreatDoor.Kp
namespace Go.Proofs.YtpeohbkigkfcgaaGreatDoor.Kp
open Go Go.ChangeShapes Go.WideShapes Go.ChangeAt Go.RowKit
attribute [local go_sem] setCell_drewN alloc_drewN
def patW (id : Nat) : Nat := (id + 1) * 2654435761 % 4294967296
def patN (id k : Nat) : Nat := (patW id / 2 ^ (8 * (k % 4)) % 256) ^^^ (k / 4 % 256)
theorem patN_lt (id k : Nat) : patN id k < 256 := by
 unfold patN
 have e : (256 : Nat) = 2 ^ 8 := by decide
 rw [e]
 exact Nat.xor_lt_two_pow (Nat.mod_lt _ (by decide)) (Nat.mod_lt _ (by decide))
theorem pat_any (id k : Nat) (hid : id < 1000000) (hk : k < 9223372036854775808) (w : World) : Calls Tryz.prog 257 #[.int .i64 (id : Int), .int .i64 (k : Int)] w fun e w' => e = .returned (.int .u8 (patN id k : Int)) /\ w' = w := by
 have e1 : bits .xor .u8 (((id : Int) + 1) * 2654435761 % 4294967296 / 2 ^ (8 * (k % 4)) % 256) ((k : Int) / 4 % 256) = ((patN id k : Nat) : Int) := by
  have h := u8_xor_nat (patW id / 2 ^ (8 * (k % 4)) % 256) (k / 4 % 256) (Nat.mod_lt _ (by decide)) (Nat.mod_lt _ (by decide))
  have c1 : ((patW id / 2 ^ (8 * (k % 4)) % 256 : Nat) : Int) = ((id : Int) + 1) * 2654435761 % 4294967296 / 2 ^ (8 * (k % 4)) % 256 := by
   simp only [patW, Int.natCast_emod, Int.natCast_ediv, Int.natCast_mul, Int.natCast_add, Int.natCast_pow]
   rfl
  have c2 : ((k / 4 % 256 : Nat) : Int) = (k : Int) / 4 % 256 := by omega
  rw [c1, c2] at h
  exact h
 go_enter Tryz.func257, Tryz.ntmps257
 go_wp2_with fail
 go_ret
 exact ⟨rfl, rfl⟩
theorem mark_any (id k : Nat) (hid : id < 1000000) (hk : k < 9223372036854775808) (w : World) : Calls Tryz.prog 198 #[.int .i64 (id : Int), .int .i64 (k : Int)] w fun e w' => e = .returned (.int .u8 (patN id k : Int)) /\ w' = w := by
 have hp := patN_lt id k
 go_enter Tryz.func198, Tryz.ntmps198
 go_wp2_with fail
 refine (pat_any id k hid hk w).mono ?_
 rintro e w1 ⟨rfl, hw⟩
 rw [hw]
 clear hw
 go_wp2_with fail
 go_ret
 exact ⟨rfl, rfl⟩
theorem drew_two (w : World) (m n : Nat) : (w.drewN m).drewN n = w.drewN (m + n) := World.drewN_drewN w m n
def RoomOut (f : Nat -> Nat) (n : Nat) (w : World) (e : Ending) (w' : World) : Prop :=
 ∃ g c, e = .returned (.slice (some ⟨g, 0, none⟩) (n + 64) c) /\ w'.ownsRow w.heap.size 5 1 (.slice (some ⟨g, 0, none⟩) (n + 64) c) (n + 64) (bcells (cat f n (patN 700000)) (n + 64)) /\ Below w.heap.size w w'
theorem room_some (f : Nat -> Nat) (b off n cap : Nat) (hn : n <= 140737488351232) (w : World) (hb : 0 < n -> b < w.heap.size) (hc : Hid (∀ k, k < n -> w.cell? ⟨b, off + k, none⟩ = some (.int .u8 (f k : Int)))) :
  Calls Tryz.prog 99 #[.slice (some ⟨b, off, none⟩) n cap] w fun e w' => RoomOut f n w e w' := by
 obtain ⟨i0, hi, hz0, hz1, hz2⟩ := info_parts info5
 have HI := hide hi; have HZ0 := hide hz0; have HZ1 := hide hz1; have HZ2 := hide hz2
 clear hi hz0 hz1 hz2
 go_enter Tryz.func99, Tryz.ntmps99
 have hnl := hide (World.ownsRow_lit (base := w.heap.size) (e := 5) (size := 1) w #[] 0 (Nat.le_refl _) (by unfold maxLen; omega) rfl)
 have hc1 := hide (fun o j (hj : j < n) => (World.cell?_alloc_lt w o ⟨b, off + j, none⟩ (hb (by omega))).trans (uh hc j hj))
 go_wp2_with (at_builtin; refine wpList_append_own _ rfl _ _ 55 rfl w.heap.size 5 i0 (.int .u8 0) 1 1 Tryz.underlying55 (uh HI) (uh HZ0) (uh HZ1) (uh HZ2) rfl (by decide) _ _ _ rfl (uh hnl) ⟨b, off, none⟩ n cap (bcells f n) rfl (by rw [bcells_len]; omega) (fun j u hj => by obtain ⟨h1, h2⟩ := bcells_get' hj; rw [h2, Addr.add_mid]; exact uh hc1 _ j h1) (bcells_one _ _) (by unfold maxLen; omega) (by omega) (by simp) ?_; intro v1 w1 hown1 hgrow1 _; have O1 := hide hown1; have B1 := hide (Below.grown (bal (Below.refl _ _) _) hgrow1 (by simp) (fun k hk => ((uh hnl).lt k hk).1)); clear hown1 hgrow1)
 go_loopw [3, 4] (fun v i wr => ∃ j : Nat, j <= 64 /\ i = .int .i64 (j : Int) /\ wr.ownsRow w.heap.size 5 1 v (n + j) (bcells (cat f n (patN 700000)) (n + j)) /\ Below w.heap.size w wr) (fun _ i _ => 64 - (intOf i).toNat)
 case atStart =>
  refine ⟨0, by omega, rfl, ?_, uh B1⟩
  have h := uh O1
  rw [List.nil_append, Nat.zero_add] at h
  rw [Nat.add_zero, bcells_ext n (fun i hi => cat_lt hi)]
  exact h
 case round =>
  obtain ⟨j, hj, rfl, hown, hbel⟩ := hrel
  have OWN := hide hown
  have BEL := hide hbel
  have hsz := hbel.size
  clear hown hbel O1 B1
  by_cases hlt : j < 64
  ·have hI : (j : Int) < 64 := by omega
   go_wp2_with fail
   refine (mark_any 700000 j (by omega) (by omega) wr).mono ?_
   rintro e w2 ⟨rfl, hw⟩
   rw [hw]
   clear hw
   go_wp2_with (at_builtin; refine wpList_append_own _ rfl _ _ 55 rfl w.heap.size 5 i0 (.int .u8 0) 1 1 Tryz.underlying55 (uh HI) (uh HZ0) (uh HZ1) (uh HZ2) rfl (by decide) _ _ _ rfl ((uh OWN).alloc _) ⟨wr.heap.size, 0, none⟩ 1 1 [.int .u8 (patN 700000 j : Int)] rfl rfl (cell_one_new _ _ _) (one_one _) (by unfold maxLen; omega) (by omega) (by simp; omega) ?_; intro v1 w2 hown1 hgrow1 _; have B2 := hide (Below.grown (bal (uh BEL) _) hgrow1 (by simp; omega) (fun k hk => ((uh OWN).lt k hk).1)); have O2 := hide hown1; clear hown1 hgrow1)
   refine ⟨⟨j + 1, by omega, by go_num, ?_, uh B2⟩, by simp [intOf]; omega⟩
   have h := uh O2
   rw [<- cat_ge (f := f) (g := patN 700000) (n := n) j, <- bcells_succ] at h
   exact h
  ·have hj64 : j = 64 := by omega
   subst hj64
   go_wp2_with fail
   go_ret
   obtain ⟨g, c, hv⟩ := own_open (uh OWN) (by omega)
   subst hv
   exact ⟨g, c, rfl, uh OWN, uh BEL⟩
theorem room_none (f : Nat -> Nat) (w : World) : Calls Tryz.prog 99 #[.slice none 0 0] w fun e w' => RoomOut f 0 w e w' := by
 obtain ⟨i0, hi, hz0, hz1, hz2⟩ := info_parts info5
 have HI := hide hi; have HZ0 := hide hz0; have HZ1 := hide hz1; have HZ2 := hide hz2
 clear hi hz0 hz1 hz2
 go_enter Tryz.func99, Tryz.ntmps99
 have hnl := hide (World.ownsRow_lit (base := w.heap.size) (e := 5) (size := 1) w #[] 0 (Nat.le_refl _) (by unfold maxLen; omega) rfl)
 go_wp2_with (at_builtin; refine wpList_append_own_none rfl _ _ 55 rfl w.heap.size 5 i0 1 Tryz.underlying55 (uh HI) _ _ _ rfl (uh hnl) rfl ?_)
 go_loopw [3, 4] (fun v i wr => ∃ j : Nat, j <= 64 /\ i = .int .i64 (j : Int) /\ wr.ownsRow w.heap.size 5 1 v (0 + j) (bcells (cat f 0 (patN 700000)) (0 + j)) /\ Below w.heap.size w wr) (fun _ i _ => 64 - (intOf i).toNat)
 case atStart =>
  exact ⟨0, by omega, rfl, uh hnl, bal (Below.refl _ _) _⟩
 case round =>
  obtain ⟨j, hj, rfl, hown, hbel⟩ := hrel
  have OWN := hide hown
  have BEL := hide hbel
  have hsz := hbel.size
  clear hown hbel
  by_cases hlt : j < 64
  ·have hI : (j : Int) < 64 := by omega
   go_wp2_with fail
   refine (mark_any 700000 j (by omega) (by omega) wr).mono ?_
   rintro e w2 ⟨rfl, hw⟩
   rw [hw]
   clear hw
   go_wp2_with (at_builtin; refine wpList_append_own _ rfl _ _ 55 rfl w.heap.size 5 i0 (.int .u8 0) 1 1 Tryz.underlying55 (uh HI) (uh HZ0) (uh HZ1) (uh HZ2) rfl (by decide) _ _ _ rfl ((uh OWN).alloc _) ⟨wr.heap.size, 0, none⟩ 1 1 [.int .u8 (patN 700000 j : Int)] rfl rfl (cell_one_new _ _ _) (one_one _) (by unfold maxLen; omega) (by omega) (by simp; omega) ?_; intro v1 w2 hown1 hgrow1 _; have B2 := hide (Below.grown (bal (uh BEL) _) hgrow1 (by simp; omega) (fun k hk => ((uh OWN).lt k hk).1)); have O2 := hide hown1; clear hown1 hgrow1)
   refine ⟨⟨j + 1, by omega, by go_num, ?_, uh B2⟩, by simp [intOf]; omega⟩
   have h := uh O2
   rw [<- cat_ge (f := f) (g := patN 700000) (n := 0) j, <- bcells_succ] at h
   exact h
  ·have hj64 : j = 64 := by omega
   subst hj64
   go_wp2_with fail
   go_ret
   obtain ⟨g, c, hv⟩ := own_open (uh OWN) (by omega)
   subst hv
   exact ⟨g, c, rfl, uh OWN, uh BEL⟩
theorem room_any {f : Nat -> Nat} {v : Value} {n : Nat} {w : World} (hn : n <= 140737488351232) (h : BLies f v n w) : Calls Tryz.prog 99 #[v] w fun e w' => RoomOut f n w e w' := by
 rcases h with ⟨rfl, rfl⟩ | ⟨b, off, cap, rfl, h2, h3⟩
 ·exact room_none f w
 ·exact room_some f b off n cap hn w h2 (hide h3)
theorem same8 (a : Int) (w : World) : Calls Tryz.prog 197 #[.int .u8 a, .int .u8 a] w fun e w' => e = .returned (.bool true) /\ w' = w := by
 go_enter Tryz.func197, Tryz.ntmps197
 go_wp2_with fail
 go_ret
 exact ⟨by simp, rfl⟩
theorem kept_some (f : Nat -> Nat) (b off n cap : Nat) (hn : n <= 140737488351232) (g c : Nat) (w : World) (hc : Hid (∀ k, k < n -> w.cell? ⟨b, off + k, none⟩ = some (.int .u8 (f k : Int))))
  (hg : Hid (∀ k, k < n + 64 -> w.cell? ⟨g, k, none⟩ = some (.int .u8 (cat f n (patN 700000) k : Int)))) :
  Calls Tryz.prog 95 #[.slice (some ⟨g, 0, none⟩) (n + 64) c, .slice (some ⟨b, off, none⟩) n cap] w fun e w' => e = .returned (.bool true) /\ ∃ m, w' = w.drewN m := by
 go_enter Tryz.func95, Tryz.ntmps95
 go_wp2_with fail
 go_loopw [5] (fun i wr => ∃ (k m : Nat), k <= n + 64 /\ i = .int .i64 (k : Int) /\ wr = w.drewN m) (fun i _ => n + 64 - (intOf i).toNat)
 case atStart => exact ⟨0, 0, by omega, rfl, rfl⟩
 case round =>
  obtain ⟨k, m, hk, rfl, hw⟩ := hrel
  have HW := hide hw
  have hI0 : (0 : Int) <= (k : Int) := by omega
  by_cases hlt : k < n + 64
  ·have h1 : wr.cell? ⟨g, k, none⟩ = some (.int .u8 (cat f n (patN 700000) k : Int)) := by rw [hw]; exact uh hg k hlt
   have hI : (k : Int) < (n : Int) + 64 := by omega
   by_cases hkn : k < n
   ·have h2 : wr.cell? ⟨b, off + k, none⟩ = some (.int .u8 (f k : Int)) := by rw [hw]; exact uh hc k hkn
    rw [cat_lt hkn] at h1
    have hI1 : (k : Int) < (n : Int) := by omega
    have hI2 : ¬ (n : Int) <= (k : Int) := by omega
    have hN2 : ¬ n <= k := by omega
    have hD2 : decide (n <= k) = false := decide_eq_false hN2
    clear hw hc hg
    go_wp2_with fail
    go_quiet (first | (go_at_call 197; refine Calls.quiet_of_same (same8 _ _)))
    go_wp2_with fail
    go_roundw
    case rel => exact ⟨k + 1, m + nq, by omega, by go_num, by rw [uh HW]; exact drew_two _ _ _⟩
    case measure => simp [intOf]; omega
   ·obtain ⟨j, hjk⟩ : ∃ j, k = n + j := ⟨k - n, by omega⟩
    rw [hjk, cat_ge] at h1
    rw [<- hjk] at h1
    obtain ⟨K, hK⟩ : ∃ K : Int, (k : Int) = K := ⟨_, rfl⟩
    have hKn : K.toNat = k := by omega
    have hI1 : ¬ K < (n : Int) := by omega
    have hI2 : (n : Int) <= K := by omega
    have hI3 : K - (n : Int) = (j : Int) := by omega
    have hD1 : decide (K < (n : Int)) = false := decide_eq_false hI1
    have hD2 : decide ((n : Int) <= K) = true := decide_eq_true hI2
    rw [hK] at hI hI0 ⊢
    have HK := hide hK
    have hj64 : j < 64 := by omega
    clear hK hw hc hg hjk hkn hlt hk
    go_wp2_with fail
    go_quiet (first | (go_at_call 197; refine Calls.quiet_of_same (same8 _ _)) | (go_at_call 198; refine Calls.quiet_of_same (mark_any 700000 j (by omega) (by omega) _)))
    go_wp2_with fail
    go_roundw
    case rel => exact ⟨k + 1, m + nq, by have := uh HK; omega, by have := uh HK; go_num, by rw [uh HW]; exact drew_two _ _ _⟩
    case measure => have := uh HK; simp [intOf]; omega
  ·have hkn : k = n + 64 := by omega
   subst hkn
   have hI : ¬ ((n + 64 : Nat) : Int) < (n : Int) + 64 := by omega
   clear hw
   go_wp2_with fail
   go_ret
   exact ⟨rfl, m, uh HW⟩
theorem kept_none (f : Nat -> Nat) (g c : Nat) (w : World) (hg : Hid (∀ k, k < 0 + 64 -> w.cell? ⟨g, k, none⟩ = some (.int .u8 (cat f 0 (patN 700000) k : Int)))) :
  Calls Tryz.prog 95 #[.slice (some ⟨g, 0, none⟩) (0 + 64) c, .slice none 0 0] w fun e w' => e = .returned (.bool true) /\ ∃ m, w' = w.drewN m := by
 go_enter Tryz.func95, Tryz.ntmps95
 go_wp2_with fail
 go_loopw [5] (fun i wr => ∃ (k m : Nat), k <= 64 /\ i = .int .i64 (k : Int) /\ wr = w.drewN m) (fun i _ => 64 - (intOf i).toNat)
 case atStart => exact ⟨0, 0, by omega, rfl, rfl⟩
 case round =>
  obtain ⟨k, m, hk, rfl, hw⟩ := hrel
  have HW := hide hw
  have hI0 : (0 : Int) <= (k : Int) := by omega
  by_cases hlt : k < 64
  ·have h1 : wr.cell? ⟨g, k, none⟩ = some (.int .u8 (patN 700000 k : Int)) := by
    have e := cat_ge (f := f) (g := patN 700000) (n := 0) k
    rw [Nat.zero_add] at e
    rw [hw, <- e]
    exact uh hg k (by omega)
   have hI : (k : Int) < 64 := by omega
   obtain ⟨K, hK⟩ : ∃ K : Int, (k : Int) = K := ⟨_, rfl⟩
   have hKn : K.toNat = k := by omega
   have hI1 : ¬ K < 0 := by omega
   have hI2 : (0 : Int) <= K := by omega
   have hD1 : decide (K < 0) = false := decide_eq_false hI1
   have hD2 : decide (0 <= K) = true := decide_eq_true hI2
   rw [hK] at hI hI0 ⊢
   have HK := hide hK
   have hmk := hide (show ∀ W, Calls Tryz.prog 198 #[.int .i64 700000, .int .i64 K] W fun e w' => e = .returned (.int .u8 (patN 700000 k : Int)) /\ w' = W from fun W => by rw [<- hK]; exact mark_any 700000 k (by omega) (by omega) W)
   clear hK hw hg hlt hk
   go_wp2_with fail
   go_quiet (first | (go_at_call 197; refine Calls.quiet_of_same (same8 _ _)) | (go_at_call 198; refine Calls.quiet_of_same (uh hmk _)))
   go_wp2_with fail
   go_roundw
   case rel => exact ⟨k + 1, m + nq, by have := uh HK; omega, by have := uh HK; go_num, by rw [uh HW]; exact drew_two _ _ _⟩
   case measure => have := uh HK; simp [intOf]; omega
  ·have hkn : k = 64 := by omega
   subst hkn
   clear hw
   go_wp2_with fail
   go_ret
   exact ⟨rfl, m, uh HW⟩
theorem kept_any {f : Nat -> Nat} {v : Value} {n : Nat} {w : World} (hn : n <= 140737488351232) (h : BLies f v n w) (g c : Nat) (hg : ∀ k, k < n + 64 -> w.cell? ⟨g, k, none⟩ = some (.int .u8 (cat f n (patN 700000) k : Int))) :
  Calls Tryz.prog 95 #[.slice (some ⟨g, 0, none⟩) (n + 64) c, v] w fun e w' => e = .returned (.bool true) /\ ∃ m, w' = w.drewN m := by
 rcases h with ⟨rfl, rfl⟩ | ⟨b, off, cap, rfl, h2, h3⟩
 ·exact kept_none f g c w (hide hg)
 ·exact kept_some f b off n cap hn g c w (hide h3) (hide hg)
end Go.Proofs.YtpeohbkigkfcgaaGreatDoor.Kp
namespace Go.Proofs.YtpeohbkigkfcgaaGreatDoor.Kp
open Go Go.ChangeShapes Go.WideShapes Go.ChangeAt Go.RowKit
def Idle (f j : Nat) (v : Value) : Prop := ∀ (bk : Nat) (w : World), w.cell? ⟨bk, j, none⟩ = some (.slice none 0 0) -> Calls Tryz.prog f #[.pointer (some ⟨bk, 6, none⟩)] w fun e w' => e = .returned v /\ w' = w
theorem intact2 : Idle 19 8 (.bool true) := by
 intro bk w h
 go_enter Tryz.func19, Tryz.ntmps19
 go_wp2_with fail
 go_loopw [3] (fun i wr => i = .int .i64 0 /\ wr = w) (fun i _ => 0)
 case atStart => exact ⟨rfl, rfl⟩
 case round =>
  obtain ⟨rfl, rfl⟩ := hrel
  go_wp2_with fail
  go_ret
  exact ⟨rfl, rfl⟩
theorem fill2 : Idle 52 8 (.tuple #[]) := by
 intro bk w h
 go_enter Tryz.func52, Tryz.ntmps52
 go_wp2_with fail
 go_loopw [2] (fun i wr => i = .int .i64 0 /\ wr = w) (fun i _ => 0)
 case atStart => exact ⟨rfl, rfl⟩
 case round =>
  obtain ⟨rfl, rfl⟩ := hrel
  go_wp2_with fail
  go_end0
  exact ⟨rfl, rfl⟩
theorem grow2 : Idle 72 8 (.tuple #[]) := by
 intro bk w h
 go_enter Tryz.func72, Tryz.ntmps72
 go_wp2_with fail
 go_loopw [2] (fun i wr => i = .int .i64 0 /\ wr = w) (fun i _ => 0)
 case atStart => exact ⟨rfl, rfl⟩
 case round =>
  obtain ⟨rfl, rfl⟩ := hrel
  go_wp2_with fail
  go_end0
  exact ⟨rfl, rfl⟩
theorem intact3 : Idle 20 9 (.bool true) := by
 intro bk w h
 go_enter Tryz.func20, Tryz.ntmps20
 go_wp2_with fail
 go_loopw [3] (fun i wr => i = .int .i64 0 /\ wr = w) (fun i _ => 0)
 case atStart => exact ⟨rfl, rfl⟩
 case round =>
  obtain ⟨rfl, rfl⟩ := hrel
  go_wp2_with fail
  go_ret
  exact ⟨rfl, rfl⟩
theorem fill3 : Idle 53 9 (.tuple #[]) := by
 intro bk w h
 go_enter Tryz.func53, Tryz.ntmps53
 go_wp2_with fail
 go_loopw [2] (fun i wr => i = .int .i64 0 /\ wr = w) (fun i _ => 0)
 case atStart => exact ⟨rfl, rfl⟩
 case round =>
  obtain ⟨rfl, rfl⟩ := hrel
  go_wp2_with fail
  go_end0
  exact ⟨rfl, rfl⟩
theorem grow3 : Idle 73 9 (.tuple #[]) := by
 intro bk w h
 go_enter Tryz.func73, Tryz.ntmps73
 go_wp2_with fail
 go_loopw [2] (fun i wr => i = .int .i64 0 /\ wr = w) (fun i _ => 0)
 case atStart => exact ⟨rfl, rfl⟩
 case round =>
  obtain ⟨rfl, rfl⟩ := hrel
  go_wp2_with fail
  go_end0
  exact ⟨rfl, rfl⟩
theorem intact5 : Idle 22 11 (.bool true) := by
 intro bk w h
 go_enter Tryz.func22, Tryz.ntmps22
 go_wp2_with fail
 go_loopw [3] (fun i wr => i = .int .i64 0 /\ wr = w) (fun i _ => 0)
 case atStart => exact ⟨rfl, rfl⟩
 case round =>
  obtain ⟨rfl, rfl⟩ := hrel
  go_wp2_with fail
  go_ret
  exact ⟨rfl, rfl⟩
theorem fill5 : Idle 55 11 (.tuple #[]) := by
 intro bk w h
 go_enter Tryz.func55, Tryz.ntmps55
 go_wp2_with fail
 go_loopw [2] (fun i wr => i = .int .i64 0 /\ wr = w) (fun i _ => 0)
 case atStart => exact ⟨rfl, rfl⟩
 case round =>
  obtain ⟨rfl, rfl⟩ := hrel
  go_wp2_with fail
  go_end0
  exact ⟨rfl, rfl⟩
theorem grow5 : Idle 75 11 (.tuple #[]) := by
 intro bk w h
 go_enter Tryz.func75, Tryz.ntmps75
 go_wp2_with fail
 go_loopw [2] (fun i wr => i = .int .i64 0 /\ wr = w) (fun i _ => 0)
 case atStart => exact ⟨rfl, rfl⟩
 case round =>
  obtain ⟨rfl, rfl⟩ := hrel
  go_wp2_with fail
  go_end0
  exact ⟨rfl, rfl⟩
theorem intact6 : Idle 23 12 (.bool true) := by
 intro bk w h
 go_enter Tryz.func23, Tryz.ntmps23
 go_wp2_with fail
 go_loopw [3] (fun i wr => i = .int .i64 0 /\ wr = w) (fun i _ => 0)
 case atStart => exact ⟨rfl, rfl⟩
 case round =>
  obtain ⟨rfl, rfl⟩ := hrel
  go_wp2_with fail
  go_ret
  exact ⟨rfl, rfl⟩
theorem fill6 : Idle 56 12 (.tuple #[]) := by
 intro bk w h
 go_enter Tryz.func56, Tryz.ntmps56
 go_wp2_with fail
 go_loopw [2] (fun i wr => i = .int .i64 0 /\ wr = w) (fun i _ => 0)
 case atStart => exact ⟨rfl, rfl⟩
 case round =>
  obtain ⟨rfl, rfl⟩ := hrel
  go_wp2_with fail
  go_end0
  exact ⟨rfl, rfl⟩
theorem grow6 : Idle 76 12 (.tuple #[]) := by
 intro bk w h
 go_enter Tryz.func76, Tryz.ntmps76
 go_wp2_with fail
 go_loopw [2] (fun i wr => i = .int .i64 0 /\ wr = w) (fun i _ => 0)
 case atStart => exact ⟨rfl, rfl⟩
 case round =>
  obtain ⟨rfl, rfl⟩ := hrel
  go_wp2_with fail
  go_end0
  exact ⟨rfl, rfl⟩
theorem intact7 : Idle 24 13 (.bool true) := by
 intro bk w h
 go_enter Tryz.func24, Tryz.ntmps24
 go_wp2_with fail
 go_loopw [3] (fun i wr => i = .int .i64 0 /\ wr = w) (fun i _ => 0)
 case atStart => exact ⟨rfl, rfl⟩
 case round =>
  obtain ⟨rfl, rfl⟩ := hrel
  go_wp2_with fail
  go_ret
  exact ⟨rfl, rfl⟩
theorem fill7 : Idle 57 13 (.tuple #[]) := by
 intro bk w h
 go_enter Tryz.func57, Tryz.ntmps57
 go_wp2_with fail
 go_loopw [2] (fun i wr => i = .int .i64 0 /\ wr = w) (fun i _ => 0)
 case atStart => exact ⟨rfl, rfl⟩
 case round =>
  obtain ⟨rfl, rfl⟩ := hrel
  go_wp2_with fail
  go_end0
  exact ⟨rfl, rfl⟩
theorem grow7 : Idle 77 13 (.tuple #[]) := by
 intro bk w h
 go_enter Tryz.func77, Tryz.ntmps77
 go_wp2_with fail
 go_loopw [2] (fun i wr => i = .int .i64 0 /\ wr = w) (fun i _ => 0)
 case atStart => exact ⟨rfl, rfl⟩
 case round =>
  obtain ⟨rfl, rfl⟩ := hrel
  go_wp2_with fail
  go_end0
  exact ⟨rfl, rfl⟩
theorem intact8 : Idle 25 14 (.bool true) := by
 intro bk w h
 go_enter Tryz.func25, Tryz.ntmps25
 go_wp2_with fail
 go_loopw [3] (fun i wr => i = .int .i64 0 /\ wr = w) (fun i _ => 0)
 case atStart => exact ⟨rfl, rfl⟩
 case round =>
  obtain ⟨rfl, rfl⟩ := hrel
  go_wp2_with fail
  go_ret
  exact ⟨rfl, rfl⟩
theorem fill8 : Idle 58 14 (.tuple #[]) := by
 intro bk w h
 go_enter Tryz.func58, Tryz.ntmps58
 go_wp2_with fail
 go_loopw [2] (fun i wr => i = .int .i64 0 /\ wr = w) (fun i _ => 0)
 case atStart => exact ⟨rfl, rfl⟩
 case round =>
  obtain ⟨rfl, rfl⟩ := hrel
  go_wp2_with fail
  go_end0
  exact ⟨rfl, rfl⟩
theorem grow8 : Idle 78 14 (.tuple #[]) := by
 intro bk w h
 go_enter Tryz.func78, Tryz.ntmps78
 go_wp2_with fail
 go_loopw [2] (fun i wr => i = .int .i64 0 /\ wr = w) (fun i _ => 0)
 case atStart => exact ⟨rfl, rfl⟩
 case round =>
  obtain ⟨rfl, rfl⟩ := hrel
  go_wp2_with fail
  go_end0
  exact ⟨rfl, rfl⟩
theorem intact9 : Idle 26 15 (.bool true) := by
 intro bk w h
 go_enter Tryz.func26, Tryz.ntmps26
 go_wp2_with fail
 go_loopw [3] (fun i wr => i = .int .i64 0 /\ wr = w) (fun i _ => 0)
 case atStart => exact ⟨rfl, rfl⟩
 case round =>
  obtain ⟨rfl, rfl⟩ := hrel
  go_wp2_with fail
  go_ret
  exact ⟨rfl, rfl⟩
theorem fill9 : Idle 59 15 (.tuple #[]) := by
 intro bk w h
 go_enter Tryz.func59, Tryz.ntmps59
 go_wp2_with fail
 go_loopw [2] (fun i wr => i = .int .i64 0 /\ wr = w) (fun i _ => 0)
 case atStart => exact ⟨rfl, rfl⟩
 case round =>
  obtain ⟨rfl, rfl⟩ := hrel
  go_wp2_with fail
  go_end0
  exact ⟨rfl, rfl⟩
theorem grow9 : Idle 79 15 (.tuple #[]) := by
 intro bk w h
 go_enter Tryz.func79, Tryz.ntmps79
 go_wp2_with fail
 go_loopw [2] (fun i wr => i = .int .i64 0 /\ wr = w) (fun i _ => 0)
 case atStart => exact ⟨rfl, rfl⟩
 case round =>
  obtain ⟨rfl, rfl⟩ := hrel
  go_wp2_with fail
  go_end0
  exact ⟨rfl, rfl⟩
theorem intact10 : Idle 27 16 (.bool true) := by
 intro bk w h
 go_enter Tryz.func27, Tryz.ntmps27
 go_wp2_with fail
 go_loopw [3] (fun i wr => i = .int .i64 0 /\ wr = w) (fun i _ => 0)
 case atStart => exact ⟨rfl, rfl⟩
 case round =>
  obtain ⟨rfl, rfl⟩ := hrel
  go_wp2_with fail
  go_ret
  exact ⟨rfl, rfl⟩
theorem fill10 : Idle 60 16 (.tuple #[]) := by
 intro bk w h
 go_enter Tryz.func60, Tryz.ntmps60
 go_wp2_with fail
 go_loopw [2] (fun i wr => i = .int .i64 0 /\ wr = w) (fun i _ => 0)
 case atStart => exact ⟨rfl, rfl⟩
 case round =>
  obtain ⟨rfl, rfl⟩ := hrel
  go_wp2_with fail
  go_end0
  exact ⟨rfl, rfl⟩
theorem grow10 : Idle 80 16 (.tuple #[]) := by
 intro bk w h
 go_enter Tryz.func80, Tryz.ntmps80
 go_wp2_with fail
 go_loopw [2] (fun i wr => i = .int .i64 0 /\ wr = w) (fun i _ => 0)
 case atStart => exact ⟨rfl, rfl⟩
 case round =>
  obtain ⟨rfl, rfl⟩ := hrel
  go_wp2_with fail
  go_end0
  exact ⟨rfl, rfl⟩
theorem intact11 : Idle 28 17 (.bool true) := by
 intro bk w h
 go_enter Tryz.func28, Tryz.ntmps28
 go_wp2_with fail
 go_loopw [3] (fun i wr => i = .int .i64 0 /\ wr = w) (fun i _ => 0)
 case atStart => exact ⟨rfl, rfl⟩
 case round =>
  obtain ⟨rfl, rfl⟩ := hrel
  go_wp2_with fail
  go_ret
  exact ⟨rfl, rfl⟩
theorem fill11 : Idle 61 17 (.tuple #[]) := by
 intro bk w h
 go_enter Tryz.func61, Tryz.ntmps61
 go_wp2_with fail
 go_loopw [2] (fun i wr => i = .int .i64 0 /\ wr = w) (fun i _ => 0)
 case atStart => exact ⟨rfl, rfl⟩
 case round =>
  obtain ⟨rfl, rfl⟩ := hrel
  go_wp2_with fail
  go_end0
  exact ⟨rfl, rfl⟩
theorem grow11 : Idle 81 17 (.tuple #[]) := by
 intro bk w h
 go_enter Tryz.func81, Tryz.ntmps81
 go_wp2_with fail
 go_loopw [2] (fun i wr => i = .int .i64 0 /\ wr = w) (fun i _ => 0)
 case atStart => exact ⟨rfl, rfl⟩
 case round =>
  obtain ⟨rfl, rfl⟩ := hrel
  go_wp2_with fail
  go_end0
  exact ⟨rfl, rfl⟩
theorem intact12 : Idle 29 18 (.bool true) := by
 intro bk w h
 go_enter Tryz.func29, Tryz.ntmps29
 go_wp2_with fail
 go_loopw [3] (fun i wr => i = .int .i64 0 /\ wr = w) (fun i _ => 0)
 case atStart => exact ⟨rfl, rfl⟩
 case round =>
  obtain ⟨rfl, rfl⟩ := hrel
  go_wp2_with fail
  go_ret
  exact ⟨rfl, rfl⟩
theorem fill12 : Idle 62 18 (.tuple #[]) := by
 intro bk w h
 go_enter Tryz.func62, Tryz.ntmps62
 go_wp2_with fail
 go_loopw [2] (fun i wr => i = .int .i64 0 /\ wr = w) (fun i _ => 0)
 case atStart => exact ⟨rfl, rfl⟩
 case round =>
  obtain ⟨rfl, rfl⟩ := hrel
  go_wp2_with fail
  go_end0
  exact ⟨rfl, rfl⟩
theorem grow12 : Idle 82 18 (.tuple #[]) := by
 intro bk w h
 go_enter Tryz.func82, Tryz.ntmps82
 go_wp2_with fail
 go_loopw [2] (fun i wr => i = .int .i64 0 /\ wr = w) (fun i _ => 0)
 case atStart => exact ⟨rfl, rfl⟩
 case round =>
  obtain ⟨rfl, rfl⟩ := hrel
  go_wp2_with fail
  go_end0
  exact ⟨rfl, rfl⟩
theorem intact13 : Idle 30 19 (.bool true) := by
 intro bk w h
 go_enter Tryz.func30, Tryz.ntmps30
 go_wp2_with fail
 go_loopw [3] (fun i wr => i = .int .i64 0 /\ wr = w) (fun i _ => 0)
 case atStart => exact ⟨rfl, rfl⟩
 case round =>
  obtain ⟨rfl, rfl⟩ := hrel
  go_wp2_with fail
  go_ret
  exact ⟨rfl, rfl⟩
theorem fill13 : Idle 63 19 (.tuple #[]) := by
 intro bk w h
 go_enter Tryz.func63, Tryz.ntmps63
 go_wp2_with fail
 go_loopw [2] (fun i wr => i = .int .i64 0 /\ wr = w) (fun i _ => 0)
 case atStart => exact ⟨rfl, rfl⟩
 case round =>
  obtain ⟨rfl, rfl⟩ := hrel
  go_wp2_with fail
  go_end0
  exact ⟨rfl, rfl⟩
theorem grow13 : Idle 83 19 (.tuple #[]) := by
 intro bk w h
 go_enter Tryz.func83, Tryz.ntmps83
 go_wp2_with fail
 go_loopw [2] (fun i wr => i = .int .i64 0 /\ wr = w) (fun i _ => 0)
 case atStart => exact ⟨rfl, rfl⟩
 case round =>
  obtain ⟨rfl, rfl⟩ := hrel
  go_wp2_with fail
  go_end0
  exact ⟨rfl, rfl⟩
theorem intact14 : Idle 31 20 (.bool true) := by
 intro bk w h
 go_enter Tryz.func31, Tryz.ntmps31
 go_wp2_with fail
 go_loopw [3] (fun i wr => i = .int .i64 0 /\ wr = w) (fun i _ => 0)
 case atStart => exact ⟨rfl, rfl⟩
 case round =>
  obtain ⟨rfl, rfl⟩ := hrel
  go_wp2_with fail
  go_ret
  exact ⟨rfl, rfl⟩
theorem fill14 : Idle 64 20 (.tuple #[]) := by
 intro bk w h
 go_enter Tryz.func64, Tryz.ntmps64
 go_wp2_with fail
 go_loopw [2] (fun i wr => i = .int .i64 0 /\ wr = w) (fun i _ => 0)
 case atStart => exact ⟨rfl, rfl⟩
 case round =>
  obtain ⟨rfl, rfl⟩ := hrel
  go_wp2_with fail
  go_end0
  exact ⟨rfl, rfl⟩
theorem grow14 : Idle 84 20 (.tuple #[]) := by
 intro bk w h
 go_enter Tryz.func84, Tryz.ntmps84
 go_wp2_with fail
 go_loopw [2] (fun i wr => i = .int .i64 0 /\ wr = w) (fun i _ => 0)
 case atStart => exact ⟨rfl, rfl⟩
 case round =>
  obtain ⟨rfl, rfl⟩ := hrel
  go_wp2_with fail
  go_end0
  exact ⟨rfl, rfl⟩
theorem intact15 : Idle 32 21 (.bool true) := by
 intro bk w h
 go_enter Tryz.func32, Tryz.ntmps32
 go_wp2_with fail
 go_loopw [3] (fun i wr => i = .int .i64 0 /\ wr = w) (fun i _ => 0)
 case atStart => exact ⟨rfl, rfl⟩
 case round =>
  obtain ⟨rfl, rfl⟩ := hrel
  go_wp2_with fail
  go_ret
  exact ⟨rfl, rfl⟩
theorem fill15 : Idle 65 21 (.tuple #[]) := by
 intro bk w h
 go_enter Tryz.func65, Tryz.ntmps65
 go_wp2_with fail
 go_loopw [2] (fun i wr => i = .int .i64 0 /\ wr = w) (fun i _ => 0)
 case atStart => exact ⟨rfl, rfl⟩
 case round =>
  obtain ⟨rfl, rfl⟩ := hrel
  go_wp2_with fail
  go_end0
  exact ⟨rfl, rfl⟩
theorem grow15 : Idle 85 21 (.tuple #[]) := by
 intro bk w h
 go_enter Tryz.func85, Tryz.ntmps85
 go_wp2_with fail
 go_loopw [2] (fun i wr => i = .int .i64 0 /\ wr = w) (fun i _ => 0)
 case atStart => exact ⟨rfl, rfl⟩
 case round =>
  obtain ⟨rfl, rfl⟩ := hrel
  go_wp2_with fail
  go_end0
  exact ⟨rfl, rfl⟩
theorem intact16 : Idle 33 22 (.bool true) := by
 intro bk w h
 go_enter Tryz.func33, Tryz.ntmps33
 go_wp2_with fail
 go_loopw [3] (fun i wr => i = .int .i64 0 /\ wr = w) (fun i _ => 0)
 case atStart => exact ⟨rfl, rfl⟩
 case round =>
  obtain ⟨rfl, rfl⟩ := hrel
  go_wp2_with fail
  go_ret
  exact ⟨rfl, rfl⟩
theorem fill16 : Idle 66 22 (.tuple #[]) := by
 intro bk w h
 go_enter Tryz.func66, Tryz.ntmps66
 go_wp2_with fail
 go_loopw [2] (fun i wr => i = .int .i64 0 /\ wr = w) (fun i _ => 0)
 case atStart => exact ⟨rfl, rfl⟩
 case round =>
  obtain ⟨rfl, rfl⟩ := hrel
  go_wp2_with fail
  go_end0
  exact ⟨rfl, rfl⟩
theorem grow16 : Idle 86 22 (.tuple #[]) := by
 intro bk w h
 go_enter Tryz.func86, Tryz.ntmps86
 go_wp2_with fail
 go_loopw [2] (fun i wr => i = .int .i64 0 /\ wr = w) (fun i _ => 0)
 case atStart => exact ⟨rfl, rfl⟩
 case round =>
  obtain ⟨rfl, rfl⟩ := hrel
  go_wp2_with fail
  go_end0
  exact ⟨rfl, rfl⟩
theorem intact17 : Idle 34 23 (.bool true) := by
 intro bk w h
 go_enter Tryz.func34, Tryz.ntmps34
 go_wp2_with fail
 go_loopw [3] (fun i wr => i = .int .i64 0 /\ wr = w) (fun i _ => 0)
 case atStart => exact ⟨rfl, rfl⟩
 case round =>
  obtain ⟨rfl, rfl⟩ := hrel
  go_wp2_with fail
  go_ret
  exact ⟨rfl, rfl⟩
theorem fill17 : Idle 67 23 (.tuple #[]) := by
 intro bk w h
 go_enter Tryz.func67, Tryz.ntmps67
 go_wp2_with fail
 go_loopw [2] (fun i wr => i = .int .i64 0 /\ wr = w) (fun i _ => 0)
 case atStart => exact ⟨rfl, rfl⟩
 case round =>
  obtain ⟨rfl, rfl⟩ := hrel
  go_wp2_with fail
  go_end0
  exact ⟨rfl, rfl⟩
theorem grow17 : Idle 87 23 (.tuple #[]) := by
 intro bk w h
 go_enter Tryz.func87, Tryz.ntmps87
 go_wp2_with fail
 go_loopw [2] (fun i wr => i = .int .i64 0 /\ wr = w) (fun i _ => 0)
 case atStart => exact ⟨rfl, rfl⟩
 case round =>
  obtain ⟨rfl, rfl⟩ := hrel
  go_wp2_with fail
  go_end0
  exact ⟨rfl, rfl⟩
theorem intact19 : Idle 36 25 (.bool true) := by
 intro bk w h
 go_enter Tryz.func36, Tryz.ntmps36
 go_wp2_with fail
 go_loopw [3] (fun i wr => i = .int .i64 0 /\ wr = w) (fun i _ => 0)
 case atStart => exact ⟨rfl, rfl⟩
 case round =>
  obtain ⟨rfl, rfl⟩ := hrel
  go_wp2_with fail
  go_ret
  exact ⟨rfl, rfl⟩
theorem fill19 : Idle 69 25 (.tuple #[]) := by
 intro bk w h
 go_enter Tryz.func69, Tryz.ntmps69
 go_wp2_with fail
 go_loopw [2] (fun i wr => i = .int .i64 0 /\ wr = w) (fun i _ => 0)
 case atStart => exact ⟨rfl, rfl⟩
 case round =>
  obtain ⟨rfl, rfl⟩ := hrel
  go_wp2_with fail
  go_end0
  exact ⟨rfl, rfl⟩
theorem grow19 : Idle 89 25 (.tuple #[]) := by
 intro bk w h
 go_enter Tryz.func89, Tryz.ntmps89
 go_wp2_with fail
 go_loopw [2] (fun i wr => i = .int .i64 0 /\ wr = w) (fun i _ => 0)
 case atStart => exact ⟨rfl, rfl⟩
 case round =>
  obtain ⟨rfl, rfl⟩ := hrel
  go_wp2_with fail
  go_end0
  exact ⟨rfl, rfl⟩
theorem intact20 : Idle 37 26 (.bool true) := by
 intro bk w h
 go_enter Tryz.func37, Tryz.ntmps37
 go_wp2_with fail
 go_loopw [3] (fun i wr => i = .int .i64 0 /\ wr = w) (fun i _ => 0)
 case atStart => exact ⟨rfl, rfl⟩
 case round =>
  obtain ⟨rfl, rfl⟩ := hrel
  go_wp2_with fail
  go_ret
  exact ⟨rfl, rfl⟩
theorem fill20 : Idle 70 26 (.tuple #[]) := by
 intro bk w h
 go_enter Tryz.func70, Tryz.ntmps70
 go_wp2_with fail
 go_loopw [2] (fun i wr => i = .int .i64 0 /\ wr = w) (fun i _ => 0)
 case atStart => exact ⟨rfl, rfl⟩
 case round =>
  obtain ⟨rfl, rfl⟩ := hrel
  go_wp2_with fail
  go_end0
  exact ⟨rfl, rfl⟩
theorem grow20 : Idle 90 26 (.tuple #[]) := by
 intro bk w h
 go_enter Tryz.func90, Tryz.ntmps90
 go_wp2_with fail
 go_loopw [2] (fun i wr => i = .int .i64 0 /\ wr = w) (fun i _ => 0)
 case atStart => exact ⟨rfl, rfl⟩
 case round =>
  obtain ⟨rfl, rfl⟩ := hrel
  go_wp2_with fail
  go_end0
  exact ⟨rfl, rfl⟩
end Go.Proofs.YtpeohbkigkfcgaaGreatDoor.Kp
namespace Go.Proofs.YtpeohbkigkfcgaaGreatDoor.Kp
open Go Go.ChangeShapes Go.WideShapes Go.ChangeAt Go.RowKit
attribute [local go_sem] setCell_drewN alloc_drewN
theorem id_any (bk k : Nat) (hk : k < 1000) (w : World) (h : w.cell? ⟨bk, 6, none⟩ = some (.int .i64 (k : Int))) (hf : w.frozen? ⟨bk, 6, none⟩ = false) : Calls Tryz.prog 215 #[.pointer (some ⟨bk, 6, none⟩)] w fun e w' => e = .returned (.int .i64 ((k : Int) + 1)) /\ w' = w.setCell ⟨bk, 6, none⟩ (.int .i64 ((k : Int) + 1)) := by
 have h2 : (w.setCell ⟨bk, 6, none⟩ (.int .i64 ((k : Int) + 1))).cell? ⟨bk, 6, none⟩ = some (.int .i64 ((k : Int) + 1)) := World.cell?_setCell_same _ _ _ h
 go_enter Tryz.func215, Tryz.ntmps215
 go_wp2_with fail
 go_ret
 exact ⟨rfl, rfl⟩
def mixN (id : Nat) (f : Nat -> Nat) (k : Nat) : Nat -> Nat := fun i => if i < k then patN id i else f i
structure FillAt (w wr : World) (gb n id : Nat) (f : Nat -> Nat) (k : Nat) : Prop where
 gr : w.grownBy wr (some gb)
 lt : gb < wr.heap.size
 cells : ∀ j, j < n -> wr.cell? ⟨gb, j, none⟩ = some (.int .u8 (mixN id f k j : Int))
 fz : ∀ j, j < n -> wr.frozen? ⟨gb, j, none⟩ = false
 obj : ∀ S, (∃ cur, w.heap[gb]? = some (.cells cur 5 (0, 0)) /\ cur.size = S) -> ∃ cur, wr.heap[gb]? = some (.cells cur 5 (0, 0)) /\ cur.size = S
theorem obj_set {w : World} {gb k S : Nat} {v : Value} (h : ∃ cur, w.heap[gb]? = some (.cells cur 5 (0, 0)) /\ cur.size = S) : ∃ cur, (w.setCell ⟨gb, k, none⟩ v).heap[gb]? = some (.cells cur 5 (0, 0)) /\ cur.size = S := by
 obtain ⟨cur, h1, h2⟩ := h
 refine ⟨cur.setIfInBounds k v, ?_, by simpa using h2⟩
 simp [World.setCell, Array.getElem?_modify, h1]
theorem FillAt.step {w wr : World} {gb n id k : Nat} {f : Nat -> Nat} (h : FillAt w wr gb n id f k) (hk : k < n) : FillAt w (wr.setCell ⟨gb, k, none⟩ (.int .u8 (patN id k : Int))) gb n id f (k + 1) := by
 refine ⟨h.gr.trans ⟨rfl, rfl, rfl, by simp [World.setCell], fun i hi hne => Below.heap_setCell _ _ _ _ (fun e => hne (by rw [e]))⟩, by simpa using h.lt, fun j hj => ?_, fun j hj => by simpa using h.fz j hj, fun S hS => obj_set (h.obj S hS)⟩
 by_cases e : j = k
 ·subst e
  rw [World.cell?_setCell_same _ _ _ (h.cells j hj)]
  simp [mixN]
 ·rw [World.cell?_setCell_other _ _ _ _ (by intro h'; injection h' with _ h' _; omega), h.cells j hj]
  have : j < k + 1 ↔ j < k := by omega
  simp only [mixN, this]
theorem FillAt.drew {w wr : World} {gb n id k : Nat} {f : Nat -> Nat} (h : FillAt w wr gb n id f k) : FillAt w wr.drew gb n id f k :=
 ⟨⟨h.gr.os, h.gr.tape, h.gr.output, h.gr.size, h.gr.block⟩, h.lt, h.cells, h.fz, h.obj⟩
theorem fill_some (pg po gb n cap id : Nat) (f : Nat -> Nat) (hn : n <= 1048576) (hid : id < 1000) (w : World) (hne : pg ≠ gb) (hL : w.cell? ⟨pg, po, none⟩ = some (.slice (some ⟨gb, 0, none⟩) n cap)) (hI : w.cell? ⟨pg, po + 3, none⟩ = some (.int .i64 (id : Int))) (hD : ∃ v, w.cell? ⟨pg, po + 4, none⟩ = some v) (hDf : w.frozen? ⟨pg, po + 4, none⟩ = false) (hc : ∀ k, k < n -> w.cell? ⟨gb, k, none⟩ = some (.int .u8 (f k : Int))) (hfz : ∀ j, j < n -> w.frozen? ⟨gb, j, none⟩ = false) (hlt : gb < w.heap.size) :
  Calls Tryz.prog 154 #[.pointer (some ⟨pg, po, none⟩)] w fun e w' => e = .returned (.tuple #[]) /\ ∃ w1, FillAt w w1 gb n id f n /\ w' = w1.setCell ⟨pg, po + 4, none⟩ (.bool true) := by
 have HF0 : Hid (FillAt w w gb n id f 0) := ⟨⟨rfl, rfl, rfl, Nat.le_refl _, fun _ _ _ => rfl⟩, hlt, fun j hj => by rw [hc j hj]; simp [mixN], hfz, fun _ h => h⟩
 have hpg : pg < w.heap.size := World.block_lt_of_cell? w ⟨pg, po, none⟩ hL
 have HL := hide hL
 have HI := hide hI
 have HD := hide hD
 have HDF := hide hDf
 clear hL hI hD hDf hc hfz
 go_enter Tryz.func154, Tryz.ntmps154
 go_wp2_with fail
 go_loopw [2] (fun i wr => ∃ k : Nat, k <= n /\ i = .int .i64 (k : Int) /\ FillAt w wr gb n id f k) (fun i _ => n - (intOf i).toNat)
 case atStart => exact ⟨0, by omega, rfl, uh HF0⟩
 case round =>
  obtain ⟨k, hk, rfl, hs⟩ := hrel
  have HS := hide hs
  have l1 : wr.cell? ⟨pg, po, none⟩ = some (.slice (some ⟨gb, 0, none⟩) n cap) := (hs.gr.cell_far ⟨pg, po, none⟩ hpg (by simpa using hne)).trans (uh HL)
  have l2 : wr.cell? ⟨pg, po + 3, none⟩ = some (.int .i64 (id : Int)) := (hs.gr.cell_far ⟨pg, po + 3, none⟩ hpg (by simpa using hne)).trans (uh HI)
  clear HF0
  by_cases hlk : k < n
  ·have c1 := hs.cells k hlk
   have c2 := hs.fz k hlk
   have hI1 : (k : Int) < (n : Int) := by omega
   have hI0 : (0 : Int) <= (k : Int) := by omega
   clear hs
   have hne' : gb ≠ pg := fun e => hne e.symm
   go_wp2_with fail
   go_region_held3 (fun W => W.cell? ⟨pg, po, none⟩ = some (.slice (some ⟨gb, 0, none⟩) n cap) /\ W.cell? ⟨pg, po + 3, none⟩ = some (.int .i64 (id : Int))) (first | (refine ⟨?_, ?_⟩ <;> with_reducible assumption) | go_keep) ((go_at_call 198; refine (mark_any id k (by omega) (by omega) _).mono ?_; rintro e w2 ⟨rfl, hw⟩; rw [hw]; clear hw))
   all_goals
    go_wp2_with fail
    refine ⟨⟨k + 1, by omega, by go_num, ((uh HS).step hlk).drew⟩, by simp [intOf]; omega⟩
  ·have hkn : k = n := by omega
   subst hkn
   have hI1 : ¬ (k : Int) < (k : Int) := by omega
   obtain ⟨vd, hvd⟩ := uh HD
   have l3 : wr.cell? ⟨pg, po + 4, none⟩ = some vd := (hs.gr.cell_far ⟨pg, po + 4, none⟩ hpg (by simpa using hne)).trans hvd
   have l4 : wr.frozen? ⟨pg, po + 4, none⟩ = false := (hs.gr.frozen_far ⟨pg, po + 4, none⟩ hpg (by simpa using hne)).trans (uh HDF)
   clear hs hvd
   go_wp2_with fail
   go_end0
   exact ⟨rfl, wr, uh HS, rfl⟩
theorem fill_none (pg po : Nat) (w : World) (hL : w.cell? ⟨pg, po, none⟩ = some (.slice none 0 0)) (hD : ∃ v, w.cell? ⟨pg, po + 4, none⟩ = some v) (hDf : w.frozen? ⟨pg, po + 4, none⟩ = false) :
  Calls Tryz.prog 154 #[.pointer (some ⟨pg, po, none⟩)] w fun e w' => e = .returned (.tuple #[]) /\ w' = w.setCell ⟨pg, po + 4, none⟩ (.bool true) := by
 obtain ⟨vd, hvd⟩ := hD
 go_enter Tryz.func154, Tryz.ntmps154
 go_wp2_with fail
 go_loopw [2] (fun i wr => i = .int .i64 0 /\ wr = w) (fun i _ => 0)
 case atStart => exact ⟨rfl, rfl⟩
 case round =>
  obtain ⟨rfl, rfl⟩ := hrel
  go_wp2_with fail
  go_end0
  exact ⟨rfl, rfl⟩
theorem FillAt.own {w w1 : World} {gb n id B cap : Nat} {f : Nat -> Nat} {xs : List Value} (h : FillAt w w1 gb n id f n) (ho : w.ownsRow B 5 1 (.slice (some ⟨gb, 0, none⟩) n cap) n xs) : w1.ownsRow B 5 1 (.slice (some ⟨gb, 0, none⟩) n cap) n (bcells (patN id) n) := by
 refine ⟨by rw [bcells_len]; omega, .inr ?_⟩
 rcases ho.2 with ⟨h1, _⟩ | ⟨g, c, cur, h1, hb, hg, hc1, hc2, hsz, _⟩
 ·cases h1
 ·injection h1 with h1 _ h2
  injection h1 with h1
  injection h1 with h1 _ _
  subst h1 h2
  obtain ⟨cur', h3, h4⟩ := h.obj _ ⟨cur, hg, hsz⟩
  refine ⟨gb, cap, cur', rfl, hb, h3, hc1, hc2, h4, ?_⟩
  apply List.ext_getElem?
  intro j
  by_cases hj : j < n
  ·rw [bcells_get _ _ _ hj, List.getElem?_take_of_lt (by omega)]
   have hcell := h.cells j hj
   simp only [mixN, hj, if_true] at hcell
   rw [<- hcell]
   simp [World.cell?, h3]
  ·rw [List.getElem?_eq_none (by simp; omega), List.getElem?_eq_none (by rw [bcells_len]; omega)]
structure PgAt (w : World) (b : Nat) (L G S : Value) (id : Nat) (d : Bool) : Prop where
 a0 : w.cell? ⟨b, 0, none⟩ = some L
 a1 : w.cell? ⟨b, 1, none⟩ = some G
 a2 : w.cell? ⟨b, 2, none⟩ = some S
 a3 : w.cell? ⟨b, 3, none⟩ = some (.int .i64 (id : Int))
 a4 : w.cell? ⟨b, 4, none⟩ = some (.bool d)
theorem PgAt.new (w : World) (L G S : Value) (id : Nat) (d : Bool) : PgAt (w.alloc (.cells #[L, G, S, .int .i64 (id : Int), .bool d] 115)) w.heap.size L G S id d := ⟨by simp, by simp, by simp, by simp, by simp⟩
theorem PgAt.drewN {w : World} {b id m : Nat} {L G S : Value} {d : Bool} (h : PgAt w b L G S id d) : PgAt (w.drewN m) b L G S id d := ⟨h.a0, h.a1, h.a2, h.a3, h.a4⟩
theorem shows_kept (f : Nat -> Nat) (gb gc n cb cc id : Nat) (hn : n <= 1048576) (w : World) (hb : 0 < n -> gb < w.heap.size) (hb' : 0 < n -> gc < w.heap.size) (hc : Hid (∀ k, k < n -> w.cell? ⟨gb, k, none⟩ = some (.int .u8 (f k : Int)))) (hd : Hid (∀ k, k < n -> w.cell? ⟨gc, k, none⟩ = some (.int .u8 (f k : Int)))) :
  Calls Tryz.prog 123 #[.agg #[.slice (some ⟨gb, 0, none⟩) n cb, .slice none 0 0, .slice (some ⟨gc, 0, none⟩) n cc, .int .i64 (id : Int), .bool false]] w fun e w' => e = .returned (.bool true) /\ Below w.heap.size w w' := by
 have PG := hide (PgAt.new w (.slice (some ⟨gb, 0, none⟩) n cb) (.slice none 0 0) (.slice (some ⟨gc, 0, none⟩) n cc) id false)
 have hc0 := hide (fun o k (hk : k < n) => (World.cell?_alloc_lt w o ⟨gb, k, none⟩ (hb (by omega))).trans (uh hc k hk))
 have hd0 := hide (fun o k (hk : k < n) => (World.cell?_alloc_lt w o ⟨gc, k, none⟩ (hb' (by omega))).trans (uh hd k hk))
 go_enter Tryz.func123, Tryz.ntmps123
 go_wp2_with fail
 go_loopw [4] (fun i wr => ∃ (k m : Nat), k <= n /\ i = .int .i64 (k : Int) /\ wr = (w.alloc (.cells #[.slice (some ⟨gb, 0, none⟩) n cb, .slice none 0 0, .slice (some ⟨gc, 0, none⟩) n cc, .int .i64 (id : Int), .bool false] 115)).drewN m) (fun i _ => n - (intOf i).toNat)
 case atStart => exact ⟨0, 0, by omega, rfl, rfl⟩
 case round =>
  obtain ⟨k, m, hk, rfl, hw⟩ := hrel
  have HW := hide hw
  have pg : PgAt wr w.heap.size (.slice (some ⟨gb, 0, none⟩) n cb) (.slice none 0 0) (.slice (some ⟨gc, 0, none⟩) n cc) id false := by rw [hw]; exact (uh PG).drewN
  have p0 := pg.a0
  have p1 := pg.a1
  have p2 := pg.a2
  have p3 := pg.a3
  have p4 := pg.a4
  by_cases hlt : k < n
  ·have h1 : wr.cell? ⟨gb, k, none⟩ = some (.int .u8 (f k : Int)) := by rw [hw]; exact uh hc0 _ k hlt
   have h2 : wr.cell? ⟨gc, k, none⟩ = some (.int .u8 (f k : Int)) := by rw [hw]; exact uh hd0 _ k hlt
   have hI : (k : Int) < (n : Int) := by omega
   have hI0 : (0 : Int) <= (k : Int) := by omega
   clear hw hc hd hc0 hd0 pg PG
   go_wp2_with fail
   go_quiet (first | (go_at_call 197; refine Calls.quiet_of_same (same8 _ _)))
   go_wp2_with fail
   go_quiet (fail)
   go_wp2_with fail
   go_roundw
   case rel => exact ⟨k + 1, _, by omega, by go_num, by rw [uh HW]; exact drew_two _ _ _⟩
   case measure => simp [intOf]; omega
  ·have hkn : k = n := by omega
   subst hkn
   have hI : ¬ (k : Int) < (k : Int) := by omega
   clear hw hc hd hc0 hd0 pg PG
   go_wp2_with fail
   go_loopw [5] (fun i ww => i = .int .i64 (k : Int) /\ ww = wr) (fun i _ => 0)
   case atStart => exact ⟨rfl, rfl⟩
   case round =>
    obtain ⟨rfl, rfl⟩ := hrel
    have hJ : ¬ (k : Int) < 0 := by omega
    go_wp2_with fail
    go_ret
    exact ⟨rfl, by rw [uh HW]; exact below_drewN (bal (Below.refl _ _) _) m⟩
theorem behind_any (id : Nat) (hid : id < 1000) (w : World) : Calls Tryz.prog 218 #[.int .i64 (id : Int)] w fun e w' => e = .returned (.int .i64 ((id + 100000 : Nat) : Int)) /\ w' = w := by
 go_enter Tryz.func218, Tryz.ntmps218
 go_wp2_with fail
 go_ret
 exact ⟨by simp, rfl⟩
theorem shows_done (gb gc n cb cc id : Nat) (S : Value) (hn : n <= 1048576) (hid : id < 1000) (w : World) (hb : 0 < n -> gb < w.heap.size) (hb' : gc < w.heap.size) (hc : Hid (∀ k, k < n -> w.cell? ⟨gb, k, none⟩ = some (.int .u8 (patN id k : Int)))) (hd : Hid (∀ k, k < n + 64 -> w.cell? ⟨gc, k, none⟩ = some (.int .u8 (cat (patN id) n (patN (id + 100000)) k : Int)))) :
  Calls Tryz.prog 123 #[.agg #[.slice (some ⟨gb, 0, none⟩) n cb, .slice (some ⟨gc, 0, none⟩) (n + 64) cc, S, .int .i64 (id : Int), .bool true]] w fun e w' => e = .returned (.bool true) /\ Below w.heap.size w w' := by
 have PG := hide (PgAt.new w (.slice (some ⟨gb, 0, none⟩) n cb) (.slice (some ⟨gc, 0, none⟩) (n + 64) cc) S id true)
 have hc0 := hide (fun o k (hk : k < n) => (World.cell?_alloc_lt w o ⟨gb, k, none⟩ (hb (by omega))).trans (uh hc k hk))
 have hd0 := hide (fun o k (hk : k < n + 64) => (World.cell?_alloc_lt w o ⟨gc, k, none⟩ hb').trans (uh hd k hk))
 go_enter Tryz.func123, Tryz.ntmps123
 go_wp2_with fail
 go_loopw [4] (fun i wr => ∃ (k m : Nat), k <= n /\ i = .int .i64 (k : Int) /\ wr = (w.alloc (.cells #[.slice (some ⟨gb, 0, none⟩) n cb, .slice (some ⟨gc, 0, none⟩) (n + 64) cc, S, .int .i64 (id : Int), .bool true] 115)).drewN m) (fun i _ => n - (intOf i).toNat)
 case atStart => exact ⟨0, 0, by omega, rfl, rfl⟩
 case round =>
  obtain ⟨k, m, hk, rfl, hw⟩ := hrel
  have HW := hide hw
  have pg : PgAt wr w.heap.size (.slice (some ⟨gb, 0, none⟩) n cb) (.slice (some ⟨gc, 0, none⟩) (n + 64) cc) S id true := by rw [hw]; exact (uh PG).drewN
  have p0 := pg.a0
  have p1 := pg.a1
  have p3 := pg.a3
  have p4 := pg.a4
  by_cases hlt : k < n
  ·have h1 : wr.cell? ⟨gb, k, none⟩ = some (.int .u8 (patN id k : Int)) := by rw [hw]; exact uh hc0 _ k hlt
   have h2 : wr.cell? ⟨gc, k, none⟩ = some (.int .u8 (patN id k : Int)) := by rw [hw, <- cat_lt (f := patN id) (g := patN (id + 100000)) hlt]; exact uh hd0 _ k (by omega)
   have hI : (k : Int) < (n : Int) := by omega
   have hI0 : (0 : Int) <= (k : Int) := by omega
   have hI1 : (k : Int) < (n : Int) + 64 := by omega
   have hJ : (0 : Int) < (n : Int) + 64 := by omega
   clear hw hc hd hc0 hd0 pg PG
   go_wp2_with fail
   go_quiet (fail)
   go_wp2_with fail
   generalize hz : wr.drewN nq = wz
   have HZ := hide hz
   have q0 : wz.cell? ⟨w.heap.size, 0, none⟩ = some (.slice (some ⟨gb, 0, none⟩) n cb) := by rw [<- hz]; exact p0
   have q1 : wz.cell? ⟨w.heap.size, 1, none⟩ = some (.slice (some ⟨gc, 0, none⟩) (n + 64) cc) := by rw [<- hz]; exact p1
   have q3 : wz.cell? ⟨w.heap.size, 3, none⟩ = some (.int .i64 (id : Int)) := by rw [<- hz]; exact p3
   have q4 : wz.cell? ⟨w.heap.size, 4, none⟩ = some (.bool true) := by rw [<- hz]; exact p4
   have z1 : wz.cell? ⟨gb, k, none⟩ = some (.int .u8 (patN id k : Int)) := by rw [<- hz]; exact h1
   have z2 : wz.cell? ⟨gc, k, none⟩ = some (.int .u8 (patN id k : Int)) := by rw [<- hz]; exact h2
   clear hz p0 p1 p3 p4 h1 h2
   go_quiet (first | (go_at_call 197; refine Calls.quiet_of_same (same8 _ _)) | (go_at_call 198; refine Calls.quiet_of_same (mark_any id k (by omega) (by omega) _)))
   go_wp2_with fail
   go_roundw
   case rel => exact ⟨k + 1, _, by omega, by go_num, by rw [<- uh HZ, uh HW, drew_two, drew_two]⟩
   case measure => simp [intOf]; omega
  ·have hkn : k = n := by omega
   subst hkn
   have hI : ¬ (k : Int) < (k : Int) := by omega
   have hdk := hide (fun j (hj : j < k + 64) => show wr.cell? ⟨gc, j, none⟩ = some (.int .u8 (cat (patN id) k (patN (id + 100000)) j : Int)) from by rw [hw]; exact uh hd0 _ j hj)
   clear hw hc hc0 pg hd hd0 PG
   obtain ⟨wy, rfl⟩ : ∃ x, x = wr := ⟨wr, rfl⟩
   have P1 := hide p1
   have P3 := hide p3
   clear p0 p3 p4
   go_wp2_with fail
   clear p1
   go_loopw [5] (fun i ww => ∃ (j q : Nat) (K : Int), j <= 64 /\ i = .int .i64 K /\ K = (k : Int) + (j : Int) /\ ww = wy.drewN q) (fun i _ => ((k : Int) + 64 - intOf i).toNat)
   case atStart => exact ⟨0, 0, (k : Int), by omega, rfl, by omega, rfl⟩
   case round =>
    obtain ⟨j, q, K, hj, rfl, hK, hq⟩ := hrel
    have HQ := hide hq
    have HK := hide hK
    have q1 : wr.cell? ⟨w.heap.size, 1, none⟩ = some (.slice (some ⟨gc, 0, none⟩) (k + 64) cc) := by rw [hq]; exact uh P1
    have q3 : wr.cell? ⟨w.heap.size, 3, none⟩ = some (.int .i64 (id : Int)) := by rw [hq]; exact uh P3
    have hK0 : 0 <= K := by omega
    by_cases hlj : j < 64
    ·have hI2 : K < (k : Int) + 64 := by omega
     have hKt : K.toNat = k + j := by omega
     have hKj : K - (k : Int) = (j : Int) := by omega
     have z1 : wr.cell? ⟨gc, k + j, none⟩ = some (.int .u8 (patN (id + 100000) j : Int)) := by
      have := uh hdk (k + j) (by omega)
      rw [cat_ge] at this
      rw [hq]
      exact this
     have hbe := hide (behind_any id hid)
     have hmk := hide (mark_any (id + 100000) j (by omega) (by omega))
     clear hq hK hdk
     go_wp2_with fail
     go_quiet (first | (go_at_call 197; refine Calls.quiet_of_same (same8 _ _)) | (go_at_call 198; refine Calls.quiet_of_same (uh hmk _)) | (go_at_call 218; refine Calls.quiet_of_same (uh hbe _)))
     go_wp2_with fail
     go_roundw
     case rel => exact ⟨j + 1, _, K + 1, by omega, by go_num, by have := uh HK; omega, by rw [uh HQ]; exact drew_two _ _ _⟩
     case measure => have := uh HK; simp [intOf]; omega
    ·have hI2 : ¬ K < (k : Int) + 64 := by omega
     clear hq hK hdk
     go_wp2_with fail
     go_ret
     exact ⟨rfl, by rw [uh HQ, uh HW, drew_two]; exact below_drewN (bal (Below.refl _ _) _) _⟩
theorem shows_bare (S : Value) (id : Nat) (w : World) :
  Calls Tryz.prog 123 #[.agg #[.slice none 0 0, .slice none 0 0, S, .int .i64 (id : Int), .bool false]] w fun e w' => e = .returned (.bool true) /\ Below w.heap.size w w' := by
 go_enter Tryz.func123, Tryz.ntmps123
 go_wp2_with fail
 go_loopw [4] (fun i wr => i = .int .i64 0 /\ wr = w.alloc (.cells #[.slice none 0 0, .slice none 0 0, S, .int .i64 (id : Int), .bool false] 115)) (fun i _ => 0)
 case atStart => exact ⟨rfl, rfl⟩
 case round =>
  obtain ⟨rfl, rfl⟩ := hrel
  go_wp2_with fail
  go_loopw [5] (fun i ww => i = .int .i64 0 /\ ww = w.alloc (.cells #[.slice none 0 0, .slice none 0 0, S, .int .i64 (id : Int), .bool false] 115)) (fun i _ => 0)
  case atStart => exact ⟨rfl, rfl⟩
  case round =>
   obtain ⟨rfl, rfl⟩ := hrel
   go_wp2_with fail
   go_ret
   exact ⟨rfl, bal (Below.refl _ _) _⟩
theorem shows_done0 (gc cc id : Nat) (S : Value) (hid : id < 1000) (w : World) (hb' : gc < w.heap.size) (hd : Hid (∀ k, k < 64 -> w.cell? ⟨gc, k, none⟩ = some (.int .u8 (patN (id + 100000) k : Int)))) :
  Calls Tryz.prog 123 #[.agg #[.slice none 0 0, .slice (some ⟨gc, 0, none⟩) 64 cc, S, .int .i64 (id : Int), .bool true]] w fun e w' => e = .returned (.bool true) /\ Below w.heap.size w w' := by
 have PG := hide (PgAt.new w (.slice none 0 0) (.slice (some ⟨gc, 0, none⟩) 64 cc) S id true)
 have hd0 := hide (fun o k (hk : k < 64) => (World.cell?_alloc_lt w o ⟨gc, k, none⟩ hb').trans (uh hd k hk))
 go_enter Tryz.func123, Tryz.ntmps123
 go_wp2_with fail
 go_loopw [4] (fun i wr => i = .int .i64 0 /\ wr = w.alloc (.cells #[.slice none 0 0, .slice (some ⟨gc, 0, none⟩) 64 cc, S, .int .i64 (id : Int), .bool true] 115)) (fun i _ => 0)
 case atStart => exact ⟨rfl, rfl⟩
 case round =>
  obtain ⟨rfl, hw⟩ := hrel
  have HW := hide hw
  have pg : PgAt wr w.heap.size (.slice none 0 0) (.slice (some ⟨gc, 0, none⟩) 64 cc) S id true := by rw [hw]; exact uh PG
  have p1 := pg.a1
  have hdk := hide (fun j (hj : j < 64) => show wr.cell? ⟨gc, j, none⟩ = some (.int .u8 (patN (id + 100000) j : Int)) from by rw [hw]; exact uh hd0 _ j hj)
  have P1 := hide p1
  have P3 := hide pg.a3
  clear hw hd hd0 PG pg
  obtain ⟨wy, rfl⟩ : ∃ x, x = wr := ⟨wr, rfl⟩
  go_wp2_with fail
  clear p1
  go_loopw [5] (fun i ww => ∃ (j q : Nat) (K : Int), j <= 64 /\ i = .int .i64 K /\ K = (j : Int) /\ ww = wy.drewN q) (fun i _ => (64 - intOf i).toNat)
  case atStart => exact ⟨0, 0, 0, by omega, rfl, rfl, rfl⟩
  case round =>
   obtain ⟨j, q, K, hj, rfl, hK, hq⟩ := hrel
   have HQ := hide hq
   have HK := hide hK
   have q1 : wr.cell? ⟨w.heap.size, 1, none⟩ = some (.slice (some ⟨gc, 0, none⟩) 64 cc) := by rw [hq]; exact uh P1
   have q3 : wr.cell? ⟨w.heap.size, 3, none⟩ = some (.int .i64 (id : Int)) := by rw [hq]; exact uh P3
   have hK0 : 0 <= K := by omega
   by_cases hlj : j < 64
   ·have hI2 : K < 64 := by omega
    have hKt : K.toNat = j := by omega
    have z1 : wr.cell? ⟨gc, j, none⟩ = some (.int .u8 (patN (id + 100000) j : Int)) := by rw [hq]; exact uh hdk j hlj
    have hbe := hide (behind_any id hid)
    have hmk := hide (show ∀ W, Calls Tryz.prog 198 #[.int .i64 ((id + 100000 : Nat) : Int), .int .i64 K] W fun e w' => e = .returned (.int .u8 (patN (id + 100000) j : Int)) /\ w' = W from fun W => by rw [hK]; exact mark_any (id + 100000) j (by omega) (by omega) W)
    clear hq hK hdk
    go_wp2_with fail
    go_quiet (first | (go_at_call 197; refine Calls.quiet_of_same (same8 _ _)) | (go_at_call 198; refine Calls.quiet_of_same (uh hmk _)) | (go_at_call 218; refine Calls.quiet_of_same (uh hbe _)))
    go_wp2_with fail
    go_roundw
    case rel => exact ⟨j + 1, _, K + 1, by omega, by go_num, by have := uh HK; omega, by rw [uh HQ]; exact drew_two _ _ _⟩
    case measure => have := uh HK; simp [intOf]; omega
   ·have hI2 : ¬ K < 64 := by omega
    clear hq hK hdk
    go_wp2_with fail
    go_ret
    exact ⟨rfl, by rw [uh HQ, uh HW]; exact below_drewN (bal (Below.refl _ _) _) _⟩
end Go.Proofs.YtpeohbkigkfcgaaGreatDoor.Kp
namespace Go.Proofs.YtpeohbkigkfcgaaGreatDoor.Kp
open Go Go.ChangeShapes Go.WideShapes Go.ChangeAt Go.RowKit
theorem run_append_keep (w : World) (base : Nat) (ty : TypeId) (i : TypeInfo) (hi : Tryz.prog.info? 5 = some i) (hz : i.zero = some (.int .u8 0)) (hsize : i.size = 1) (hby : i.bytes = 1)
  (v : Value) (n : Nat) (xs : List Value) (hown : w.ownsRow base 5 1 v n xs)
  (a : Addr) (m c : Nat) (news : List Value) (hl : news.length = m) (hnews : ∀ j u, news[j]? = some u -> w.cell? (a.add j) = some u) (h1 : ∀ u ∈ news, u.oneCell' = true) (hm : 0 < m)
  (hb : n + m <= 2000000) (hbase : base <= w.heap.size) :
  ∃ g cap w', (Builtin.append_ #[55, 55] ty #[v, .slice (some a) m c]).run Tryz.prog w = .ok (.slice (some ⟨g, 0, none⟩) (n + m) cap) w' /\ w'.ownsRow base 5 1 (.slice (some ⟨g, 0, none⟩) (n + m) cap) (n + m) (xs ++ news) /\ ((v.ownBlock = some g /\ w.grownBy w' (some g)) \/ (g = w.heap.size /\ w.grownBy w' none)) := by
 obtain ⟨v', w', hr, ho, hg, hnil, hat⟩ := run_append_own_at (P := Tryz.prog) w base 55 ty 5 i (.int .u8 0) 1 1 Tryz.underlying55 hi hz hsize hby rfl (by decide) v n xs hown a m c news (by omega) hnews h1 (by unfold maxLen; omega) (by omega) hbase
 obtain ⟨g, cap, rfl⟩ := own_open ho (by omega)
 refine ⟨g, cap, w', hr, ho, ?_⟩
 rcases hown.2 with ⟨rfl, h0⟩ | ⟨g0, cap0, cur, rfl, hb0, hcur, hnc, hcm, hcs, htake⟩
 ·rcases hat with h | h
  ·simp [Value.ownBlock] at h
  ·simp [Value.ownBlock] at h
   exact .inr ⟨h, hg⟩
 ·by_cases hf : n + m <= cap0
  ·obtain ⟨w2, hr3, _, hg3⟩ := run_append_fits (P := Tryz.prog) w base 55 ty 5 i 1 Tryz.underlying55 hi hsize g0 n cap0 xs hown a m c news (by omega) hnews h1 hf
   rw [hr] at hr3
   injection hr3 with e1 e2
   injection e1 with e1 _ _
   injection e1 with e1
   injection e1 with e1 _ _
   subst e1 e2
   exact .inl ⟨rfl, hg3⟩
  ·have hr2 := run_append_grow (P := Tryz.prog) w 55 ty 5 i (.int .u8 0) Tryz.underlying55 hi hz ⟨g0, 0, none⟩ n cap0 xs (by rw [hsize]; have := hown.1; omega) (hown.cells (g := g0) rfl) a m c news (by rw [hsize]; omega) hnews (by omega) (by omega) (by rw [hby]; exact growslice_fits (by omega) (by omega))
   rw [hr] at hr2
   injection hr2 with e1 e2
   injection e1 with e1 _ _
   injection e1 with e1
   injection e1 with e1 _ _
   refine .inr ⟨e1, ?_⟩
   rw [e2]
   exact ⟨rfl, rfl, rfl, by simp, fun k hk _ => Below.heap_alloc _ _ _ hk⟩
theorem step_append_keep {ops : Array Oper} {o : Oper} {a : Act} {K : Act -> World -> Prop} {Q : Exit -> Act -> World -> Prop} {E : Prop} (w : World) (hgd : o.guard = none) (s x : Operand)
  (ho : o.op = .call { callee := .builtin .append, args := #[s, x], argTypes := #[55, 55] })
  (base : Nat) (i : TypeInfo) (hi : Tryz.prog.info? 5 = some i) (hz : i.zero = some (.int .u8 0)) (hsize : i.size = 1) (hby : i.bytes = 1)
  (v : Value) (n : Nat) (xs : List Value) (hs : a.eval s = v) (hown : w.ownsRow base 5 1 v n xs)
  (ad : Addr) (m c : Nat) (news : List Value) (hx : a.eval x = .slice (some ad) m c) (hl : news.length = m) (hnews : ∀ j u, news[j]? = some u -> w.cell? (ad.add j) = some u) (h1 : ∀ u ∈ news, u.oneCell' = true) (hm : 0 < m)
  (hb : n + m <= 2000000) (hbase : base <= w.heap.size)
  (h : ∀ g cap w', w'.ownsRow base 5 1 (.slice (some ⟨g, 0, none⟩) (n + m) cap) (n + m) (xs ++ news) -> ((v.ownBlock = some g /\ w.grownBy w' (some g)) \/ (g = w.heap.size /\ w.grownBy w' none)) -> K (a.put o.dst (.slice (some ⟨g, 0, none⟩) (n + m) cap)) w') :
  if Region.wanted o (yielded ops a.tmps) = true then Oper.wp Tryz.prog o a w K Q else E := by
 have hw : Region.wanted o (yielded ops a.tmps) = true := by simp [Region.wanted, hgd]
 rw [if_pos hw]
 obtain ⟨g, cap, w', hr, h2, h3⟩ := run_append_keep w base o.type i hi hz hsize hby v n xs hown ad m c news hl hnews h1 hm hb hbase
 unfold Oper.wp execOp
 simp only [ho, resolve, invoke, builtin, Sem.run_bind, Sem.run_pure, Result.andThen_ok, List.map_toArray, List.map_cons, List.map_nil, hs, hx, hr]
 exact h g cap w' h2 h3
end Go.Proofs.YtpeohbkigkfcgaaGreatDoor.Kp
namespace Go.Proofs.YtpeohbkigkfcgaaGreatDoor.Kp
open Go Go.ChangeShapes Go.WideShapes Go.ChangeAt Go.RowKit
attribute [local go_sem] setCell_drewN alloc_drewN
structure GrowAt (w : World) (pg po gb n id B : Nat) (j : Nat) (v : Value) (wr : World) : Prop where
 size : w.heap.size <= wr.heap.size
 os : wr.os = w.os
 tape : wr.tape = w.tape
 output : wr.output = w.output
 far : ∀ k, k < w.heap.size -> k ≠ pg -> k ≠ gb -> wr.heap[k]? = w.heap[k]?
 page : ∀ i, i ≠ po + 1 -> wr.cell? ⟨pg, i, none⟩ = w.cell? ⟨pg, i, none⟩
 pagef : ∀ i, wr.frozen? ⟨pg, i, none⟩ = w.frozen? ⟨pg, i, none⟩
 g : wr.cell? ⟨pg, po + 1, none⟩ = some v
 own : wr.ownsRow B 5 1 v (n + j) (bcells (cat (patN id) n (patN (id + 100000))) (n + j))
 at' : v.ownBlock = some gb \/ ∀ k, v.ownBlock = some k -> w.heap.size <= k
 lst : ∀ k, k < n -> wr.cell? ⟨gb, k, none⟩ = some (.int .u8 (patN id k : Int))
 pobj : ∀ t S, (∃ cur, w.heap[pg]? = some (.cells cur t (0, 0)) /\ cur.size = S) -> ∃ cur, wr.heap[pg]? = some (.cells cur t (0, 0)) /\ cur.size = S
theorem obj_setT {w : World} {gb k S : Nat} {t : TypeId} {v : Value} (h : ∃ cur, w.heap[gb]? = some (.cells cur t (0, 0)) /\ cur.size = S) : ∃ cur, (w.setCell ⟨gb, k, none⟩ v).heap[gb]? = some (.cells cur t (0, 0)) /\ cur.size = S := by
 obtain ⟨cur, h1, h2⟩ := h
 refine ⟨cur.setIfInBounds k v, ?_, by simpa using h2⟩
 simp [World.setCell, Array.getElem?_modify, h1]
theorem GrowAt.ne {w wr : World} {pg po gb n id B j : Nat} {v : Value} (h : GrowAt w pg po gb n id B j v wr) (hne : pg ≠ gb) (hpg : pg < w.heap.size) : ∀ k, v.ownBlock = some k -> k ≠ pg := by
 intro k hk e
 rcases h.at' with h' | h'
 ·rw [h'] at hk
  injection hk with hk
  omega
 ·have := h' k hk
  omega
end Go.Proofs.YtpeohbkigkfcgaaGreatDoor.Kp
