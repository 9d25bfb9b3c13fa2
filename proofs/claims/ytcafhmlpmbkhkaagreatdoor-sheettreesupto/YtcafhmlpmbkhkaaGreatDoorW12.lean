import Derived.Test.YtcafhmlpmbkhkaaGreatDoorW02
import Derived.Test.YtcafhmlpmbkhkaaGreatDoorW07
import Derived.WalkKit
import Derived.ProofKit
import Derived.OpenShut
import Derived.WalkLawsBesides
import Derived.Deep.QuietTactic
import Derived.BigQuiet
import Derived.Lib.ItoaMem
import Derived.BigCall
import Derived.BigGuard
namespace Go.Proofs.YtcafhmlpmbkhkaaGreatDoor
open Go.ChangeShapes Go.WideShapes Go.ChangeAt Go.RowKit Go.Sort Go.Lib
set_option linter.unusedVariables false
set_option linter.unusedSimpArgs false


theorem holds_zero0 (w : World) (T : TypeId) (nd : Nat) (hs : nd ≤ 24) : Holds (fun (b : UInt8) => Value.int .u8 (b.toNat : Int)) (w.alloc (.cells Lib.zeros24 T)) w.heap.size 0 (Array.replicate nd (0 : UInt8)) := fun j hj => by
  have hj' : j < nd := by simpa using hj
  refine ⟨?_, World.frozen?_alloc_new _ _ _ _⟩
  rw [World.cell?_alloc_new, Lib.zeros24_at _ (by omega), getElem!_pos _ j hj]
  simp
theorem fin_pos0 (w : World) (o : Obj) (dk : Array UInt8) (k : Nat) : ∃ os, (putRow (fun (b : UInt8) => Value.int .u8 (b.toNat : Int)) (w.alloc o) w.heap.size 0 dk).drewN k = grow (w.drewN k) os := by
  rw [alloc_eq_grow]
  obtain ⟨os', _, e⟩ := putRow_grow_new (fun (b : UInt8) => Value.int .u8 (b.toNat : Int)) w #[o] w.heap.size 0 dk (Nat.le_refl _)
  exact ⟨os', by rw [e]; rfl⟩
set_option maxHeartbeats 6400000 in
set_option maxRecDepth 100000 in
/-- internal/strconv.FormatUint at base 10 -/
theorem fmtu_in (u : Nat) (hu64 : u < 18446744073709551616) (w : World) (htab : Lib.TabIs Tryz.prog w "internal/strconv.uint64pow10" .u64 Lib.pow10Tab) :
    Calls Tryz.prog 243 #[.int .u64 u, .int .i64 10] w fun e w' => e = .returned (.string ⟨(Lib.decDigits u).toArray⟩) ∧ ∃ k os, w' = grow (w.drewN k) os := by
  by_cases hs : u < 100
  · have hi : (u : Int) < 100 := by omega
    go_enter Tryz.func243, Tryz.ntmps243
    go_wp2_with (go_at_call 279; refine (Tryz.internal_strconv_small u hs _).mono ?_; rintro e w' ⟨rfl, rfl⟩)
    go_ret
    exact ⟨rfl, 0, #[], by simp [World.drewN_zero]⟩
  · have hu1 : 1 ≤ u := by omega
    have hge : ¬ (u : Int) < 100 := by omega
    have hnd20 : Lib.nDigits u ≤ 20 := by have := Lib.numDigits_eq u hu1 hu64; split at this <;> omega
    have hal : Tryz.prog.arrayLen 320 = 24 := by simp [Program.arrayLen, Tryz.underlying320]
    have hsl : ∀ W, (Instr.sliceAt 320 (.pointer (some ⟨w.heap.size, 0, none⟩)) none (some (.int .i64 (Lib.nDigits u : Int))) none).run Tryz.prog W = .ok (.slice (some ⟨w.heap.size, 0, none⟩) (Lib.nDigits u) 24) W := fun W => by
      rw [run_sliceAt_array_h W 320 ⟨w.heap.size, 0, none⟩ (by simp [Program.arrayLen, Program.elem, Tryz.underlying320]) .i64 (Lib.nDigits u : Int) (by omega) (by rw [hal]; omega)]
      go_simp
    have hH0 := holds_zero0 w 320 (Lib.nDigits u) (by omega)
    have hfmt := Tryz.internal_strconv_formatBase10 w.heap.size 0 24 u (Array.replicate (Lib.nDigits u) 0) (w.alloc (.cells Lib.zeros24 320)) hH0 (by rw [Array.size_replicate]; exact Lib.lt_pow_nDigits u) hu64 (by rw [Array.size_replicate]; omega)
    rw [Array.size_replicate] at hfmt
    have HH0 := Lib.hid hH0
    clear hH0 hal
    go_enter Tryz.func243, Tryz.ntmps243
    go_wp2_with (first | (go_at_call 280; refine (Tryz.internal_strconv_numDigits u hu1 hu64 _ (Lib.tabIs_alloc htab _)).mono ?_; rintro e w' ⟨rfl, rfl⟩))
    refine hfmt.mono ?_
    rintro e w' ⟨rfl, k, v', dk, rfl, hF⟩
    have hcv : (convert 196 9 (.slice (some ⟨w.heap.size, 0, none⟩) (Lib.nDigits u) 24)).run Tryz.prog ((putRow (fun (b : UInt8) => Value.int .u8 (b.toNat : Int)) (w.alloc (.cells Lib.zeros24 320)) w.heap.size 0 dk).drewN k) = .ok (.string ⟨(Lib.decDigits u).toArray⟩) ((putRow (fun (b : UInt8) => Value.int .u8 (b.toNat : Int)) (w.alloc (.cells Lib.zeros24 320)) w.heap.size 0 dk).drewN k) := by
      have h := run_convert_bytes_back (P := Tryz.prog) ((putRow (fun (b : UInt8) => Value.int .u8 (b.toNat : Int)) (w.alloc (.cells Lib.zeros24 320)) w.heap.size 0 dk).drewN k) 196 9 5 ⟨w.heap.size, 0, none⟩ 24 (Lib.decDigits u) Tryz.underlying196 Tryz.underlying5 Tryz.underlying9 (fun j hj => by
        rw [Lib.row_is_numeral hF j hj, Lib.add_plain, World.cell?_drewN]
        exact cell?_putRow (fun (b : UInt8) => Value.int .u8 (b.toNat : Int)) _ w.heap.size 0 _ dk HH0.out (by rw [hF.size, Array.size_replicate]) j (by rw [hF.size]; rw [Lib.decDigits_length] at hj; exact hj))
      rw [Lib.decDigits_length] at h
      exact h
    go_wp2
    go_ret
    obtain ⟨os, eo⟩ := fin_pos0 w (.cells Lib.zeros24 320) dk k
    exact ⟨rfl, k, os, eo⟩
set_option maxHeartbeats 1000000 in
theorem fmtu (u : Nat) (hu64 : u < 18446744073709551616) (w : World) (htab : Lib.TabIs Tryz.prog w "internal/strconv.uint64pow10" .u64 Lib.pow10Tab) :
    Calls Tryz.prog 197 #[.int .u64 u, .int .i64 10] w fun e w' => e = .returned (.string ⟨(Lib.decDigits u).toArray⟩) ∧ ∃ k os, w' = grow (w.drewN k) os := by
  go_enter Tryz.func197, Tryz.ntmps197
  go_wp2_with (go_at_call 243; refine (fmtu_in u hu64 _ htab).mono ?_; rintro e w' ⟨rfl, k, os, rfl⟩)
  go_ret
  exact ⟨rfl, k, os, rfl⟩

set_option maxHeartbeats 1000000 in
theorem isYes (a : Int) (w : World) (h : -9223372036854775807 ≤ a) : Calls Tryz.prog 143 #[.int .i64 a] w fun e w' => e = .returned (.bool true) ∧ w' = w := by
  have hb : (a != -9223372036854775808) = true := by rw [bne_iff_ne]; omega
  clear h
  go_enter Tryz.func143, Tryz.ntmps143
  go_wp2
  go_ret
  exact ⟨rfl, rfl⟩
set_option maxHeartbeats 1000000 in
theorem isNo (w : World) : Calls Tryz.prog 143 #[.int .i64 (-9223372036854775808)] w fun e w' => e = .returned (.bool false) ∧ w' = w := by
  go_enter Tryz.func143, Tryz.ntmps143
  go_wp2
  go_ret
  exact ⟨rfl, rfl⟩
set_option maxHeartbeats 1000000 in
theorem chkYes (a : Int) (w : World) (h : -9223372036854775807 ≤ a) : Calls Tryz.prog 164 #[.int .i64 a] w fun e w' => e = .returned (.int .i64 0) ∧ w' = w := by
  have hb : (a == -9223372036854775808) = false := by rw [beq_eq_false_iff_ne]; omega
  clear h
  go_enter Tryz.func164, Tryz.ntmps164
  go_wp2
  go_ret
  exact ⟨rfl, rfl⟩
set_option maxHeartbeats 1000000 in
theorem chkNo (w : World) : Calls Tryz.prog 164 #[.int .i64 (-9223372036854775808)] w fun e w' => e = .returned (.int .i64 10) ∧ w' = w := by
  go_enter Tryz.func164, Tryz.ntmps164
  go_wp2
  go_ret
  exact ⟨rfl, rfl⟩
theorem retU {a b : Int} (h : a = b) : Ending.returned (.int .u64 a) = .returned (.int .u64 b) := by rw [h]
set_option maxHeartbeats 1000000 in
theorem sizeAny (a : Int) (w : World) (h : -9223372036854775807 ≤ a) (h' : a ≤ 9223372036854775807) : Calls Tryz.prog 198 #[.int .i64 a] w fun e w' => e = .returned (.int .u64 (a.natAbs : Int)) ∧ w' = w := by
  by_cases ha : a < 0
  · go_enter Tryz.func198, Tryz.ntmps198
    go_wp2
    go_ret
    exact ⟨retU (by omega), rfl⟩
  · go_enter Tryz.func198, Tryz.ntmps198
    go_wp2
    go_ret
    exact ⟨retU (by omega), rfl⟩
set_option maxHeartbeats 1000000 in
theorem goodYes (d : Int) (w : World) (h : 0 ≤ d) (h' : d ≤ 6) : Calls Tryz.prog 196 #[.int .i64 d] w fun e w' => e = .returned (.bool true) ∧ w' = w := by
  go_enter Tryz.func196, Tryz.ntmps196
  go_wp2
  go_ret
  exact ⟨by simp, rfl⟩
set_option maxHeartbeats 1000000 in
theorem goodNo (d : Int) (w : World) (h : d < 0 ∨ 6 < d) : Calls Tryz.prog 196 #[.int .i64 d] w fun e w' => e = .returned (.bool false) ∧ w' = w := by
  rcases h with h | h
  all_goals
    go_enter Tryz.func196, Tryz.ntmps196
    go_wp2
    go_ret
    exact ⟨by simp; try omega, rfl⟩
end Go.Proofs.YtcafhmlpmbkhkaaGreatDoor
namespace Go.Proofs.YtcafhmlpmbkhkaaGreatDoor
open Go.ChangeShapes Go.WideShapes Go.ChangeAt Go.RowKit
set_option linter.unusedVariables false

/-- a digit's byte -/
def ch (c : Nat) : UInt8 := UInt8.ofNat (48 + c)
/-- a text's length -/
def szOf : Value → Nat | .string t => t.size | _ => 0
theorem bapp (a b : List UInt8) : (⟨a.toArray⟩ : ByteArray) ++ ⟨b.toArray⟩ = ⟨(a ++ b).toArray⟩ := by
  apply ByteArray.ext
  simp [ByteArray.data_append]
/-- at least so many digits -/
def dmin : Nat → Nat → Nat → List UInt8
  | 0, _, _ => []
  | f + 1, v, l => if 0 < v ∨ 0 < l then dmin f (v / 10) (l - 1) ++ [ch (v % 10)] else []

theorem dmin_go {f v l : Nat} (h : 0 < v ∨ 0 < l) : dmin (f + 1) v l = dmin f (v / 10) (l - 1) ++ [ch (v % 10)] := by simp [dmin, h]
theorem dmin_end {f v l : Nat} (h : ¬ (0 < v ∨ 0 < l)) : dmin f v l = [] := by
  cases f with
  | zero => rfl
  | succ f => simp [dmin, h]

structure DigAt (v least k x : Nat) (s : List UInt8) : Prop where
  len : s.length = k
  xv : x = v / 10 ^ k
  all : dmin 40 v least = dmin (40 - k) x (least - k) ++ s
theorem DigAt.small {v least k x : Nat} {s : List UInt8} (h : DigAt v least k x s) (hv : v ≤ 9223372036854775807) (hx : 0 < x) : k ≤ 18 := by
  by_cases hk : k ≤ 18
  · exact hk
  · have h1 : 10 ^ 19 ≤ 10 ^ k := Nat.pow_le_pow_right (by decide) (by omega)
    have h2 : v < 10 ^ k := by omega
    rw [h.xv, Nat.div_eq_of_lt h2] at hx
    omega
theorem DigAt.step {v least k x : Nat} {s : List UInt8} (h : DigAt v least k x s) (hk : k < 40) (hg : 0 < x ∨ k < least) : DigAt v least (k + 1) (x / 10) (ch (x % 10) :: s) := by
  refine ⟨by simp [h.len], by rw [h.xv, Nat.pow_succ, Nat.div_div_eq_div_mul], ?_⟩
  have e : 40 - k = (40 - (k + 1)) + 1 := by omega
  rw [h.all, e, dmin_go (by omega), List.append_assoc, show least - k - 1 = least - (k + 1) by omega]
  rfl

theorem conv0 (c : Nat) (hc : c < 10) (W : World) : (convert 196 9 (.slice (some ⟨W.heap.size, 0, none⟩) 1 1)).run Tryz.prog (W.alloc (.cells #[.int .u8 (48 + (c : Int))] 5)) = .ok (.string ⟨#[ch c]⟩) (W.alloc (.cells #[.int .u8 (48 + (c : Int))] 5)) := by
  have h := run_convert_bytes_back (P := Tryz.prog) (W.alloc (.cells #[.int .u8 (48 + (c : Int))] 5)) 196 9 5 ⟨W.heap.size, 0, none⟩ 1 [ch c] Tryz.underlying196 Tryz.underlying5 Tryz.underlying9 (fun j hj => by
    have : j = 0 := by simpa using hj
    subst this
    simp [Addr.add, ch]
    omega)
  exact h

theorem conv1 (x : Nat) (W : World) : (convert 196 9 (.slice (some ⟨W.heap.size, 0, none⟩) 1 1)).run Tryz.prog (W.alloc (.cells #[.int .u8 (48 + (x : Int) % 10)] 5)) = .ok (.string ⟨#[ch (x % 10)]⟩) (W.alloc (.cells #[.int .u8 (48 + (x : Int) % 10)] 5)) := by
  have h := conv0 (x % 10) (by omega) W
  rw [show ((x % 10 : Nat) : Int) = (x : Int) % 10 by omega] at h
  exact h
theorem conv48 (W : World) : (convert 196 9 (.slice (some ⟨W.heap.size, 0, none⟩) 1 1)).run Tryz.prog (W.alloc (.cells #[.int .u8 48] 5)) = .ok (.string ⟨#[ch 0]⟩) (W.alloc (.cells #[.int .u8 48] 5)) := conv0 0 (by decide) W
theorem retS {a b : ByteArray} (h : a = b) : Ending.returned (.string a) = .returned (.string b) := by rw [h]
set_option maxRecDepth 100000 in
set_option maxHeartbeats 2000000 in
theorem digits_any (v least : Nat) (w : World) (h1 : v ≤ 9223372036854775807) (h2 : least ≤ 6) : Calls Tryz.prog 172 #[.int .i64 v, .int .i64 least] w fun e w' => e = .returned (.string ⟨(dmin 40 v least).toArray⟩) ∧ Below w.heap.size w w' := by
  go_enter Tryz.func172, Tryz.ntmps172
  go_wp2
  go_loopw [0, 5] (fun tv ts wr => ∃ (k x : Nat) (s : List UInt8), tv = .int .i64 x ∧ ts = .string ⟨s.toArray⟩ ∧ x ≤ 9223372036854775807 ∧ DigAt v least k x s ∧ Below w.heap.size w wr) (fun tv ts _ => (RowKit.intOf tv).toNat + (least - szOf ts))
  case atStart => exact ⟨0, v, [], rfl, rfl, h1, ⟨rfl, by simp, by simp⟩, Below.refl _ _⟩
  case round =>
    rename_i wr
    obtain ⟨k, x, s, rfl, rfl, hx, hd, hb⟩ := hrel
    have HD := hide hd
    have HB := hide hb
    have hlen : s.length = k := hd.len
    have hsz : ((⟨s.toArray⟩ : ByteArray)).size = k := by show s.toArray.size = k; simpa using hlen
    clear hd hb
    by_cases hg : 0 < x ∨ k < least
    · have hk : k < 40 := by
        rcases hg with hg | hg
        · have := (unhide HD).small h1 hg
          omega
        · omega
      have ST := hide ((unhide HD).step hk hg)
      have hcv := conv1 x wr
      by_cases hp : (0 : Int) < x
      · go_wp2
        refine ⟨⟨k + 1, x / 10, ch (x % 10) :: s, by go_num, congrArg Value.string (bapp [ch (x % 10)] s), by omega, unhide ST, bal (unhide HB) _⟩, ?_⟩
        have e1 : szOf (Value.string ({ data := #[ch (x % 10)] } ++ { data := s.toArray })) = k + 1 := by
          show ({ data := #[ch (x % 10)] } ++ { data := s.toArray } : ByteArray).size = k + 1
          rw [bapp [ch (x % 10)] s]
          show ([ch (x % 10)] ++ s).toArray.size = k + 1
          simp [hlen]
        have e2 : szOf (Value.string { data := s.toArray }) = k := hsz
        rw [e1, e2]
        simp [RowKit.intOf]
        omega
      · have hx0 : x = 0 := by omega
        subst hx0
        have hcv0 := conv48 wr
        have hl : (k : Int) < (least : Int) := by omega
        clear hcv
        go_wp2
        refine ⟨⟨k + 1, 0, ch 0 :: s, by go_num, congrArg Value.string (bapp [ch 0] s), by omega, unhide ST, bal (unhide HB) _⟩, ?_⟩
        have e1 : szOf (Value.string ({ data := #[ch 0] } ++ { data := s.toArray })) = k + 1 := by
          show ({ data := #[ch 0] } ++ { data := s.toArray } : ByteArray).size = k + 1
          rw [bapp [ch 0] s]
          show ([ch 0] ++ s).toArray.size = k + 1
          simp [hlen]
        have e2 : szOf (Value.string { data := s.toArray }) = k := hsz
        rw [e1, e2]
        simp [RowKit.intOf]
        omega
    · have hx0 : x = 0 := by omega
      have hkl : ¬ (k : Int) < (least : Int) := by omega
      have FIN := hide ((unhide HD).all.trans (by rw [dmin_end (by omega), List.nil_append]))
      subst hx0
      clear hg
      go_wp2
      go_ret
      exact ⟨retS (by rw [unhide FIN]), unhide HB⟩

set_option maxRecDepth 100000 in
set_option maxHeartbeats 2000000 in
theorem ten_any (n : Nat) (w : World) (h : n ≤ 6) : Calls Tryz.prog 200 #[.int .i64 n] w fun e w' => e = .returned (.int .i64 ((10 ^ n : Nat) : Int)) ∧ w' = w := by
  have : n = 0 ∨ n = 1 ∨ n = 2 ∨ n = 3 ∨ n = 4 ∨ n = 5 ∨ n = 6 := by omega
  go_enter Tryz.func200, Tryz.ntmps200
  go_wp2
  go_loop [3, 4] (fun v i => ∃ k : Nat, k ≤ n ∧ i = .int .i64 k ∧ v = .int .i64 ((10 ^ k : Nat) : Int)) (fun _ i => n - (RowKit.intOf i).toNat)
  case atStart => exact ⟨0, by omega, rfl, rfl⟩
  case round =>
    obtain ⟨k, hk, rfl, rfl⟩ := hrel
    by_cases hlt : k < n
    · have hb : 10 ^ k ≤ 10 ^ 5 := Nat.pow_le_pow_right (by decide) (by omega)
      obtain ⟨T, hT⟩ : ∃ T, 10 ^ k = T := ⟨_, rfl⟩
      have hT1 : 10 ^ (k + 1) = T * 10 := by rw [Nat.pow_succ, hT]
      rw [hT] at hb ⊢
      have HT := hide hT1
      have hb2 : (T : Int) ≤ 100000 := by omega
      clear hT hT1 hb this
      go_wp2
      go_round
      case rel => exact ⟨k + 1, by omega, by go_num, by rw [unhide HT]; go_num⟩
      case measure => simp [RowKit.intOf]; omega
    · have : k = n := by omega
      subst this
      go_wp2
      go_ret
      exact ⟨rfl, rfl⟩
end Go.Proofs.YtcafhmlpmbkhkaaGreatDoor
namespace Go.Proofs.YtcafhmlpmbkhkaaGreatDoor
set_option linter.unusedVariables false

theorem ch_eq (c : Nat) : ch c = UInt8.ofNat (48 + c) := rfl
theorem dec_small {u : Nat} (h : u < 10) : Lib.decDigits u = [ch u] := Lib.decDigits_one h
theorem dec_step {u : Nat} (h : ¬ u < 10) : Lib.decDigits u = Lib.decDigits (u / 10) ++ [ch (u % 10)] := by
  rw [Lib.decDigits, dif_neg h]; rfl
theorem dmin_zero : ∀ (f v : Nat), v < 10 ^ f → dmin f v 0 = if v = 0 then [] else Lib.decDigits v
  | 0, v, h => by
    have : v = 0 := by simpa using h
    simp [this, dmin]
  | f + 1, v, h => by
    by_cases hv : v = 0
    · simp [hv, dmin]
    · rw [dmin_go (by omega), if_neg hv]
      have h2 : v / 10 < 10 ^ f := by rw [Nat.pow_succ] at h; omega
      rw [show 0 - 1 = 0 from rfl, dmin_zero f (v / 10) h2]
      by_cases h10 : v < 10
      · rw [if_pos (by omega), dec_small h10, Nat.mod_eq_of_lt h10]
        rfl
      · rw [if_neg (by omega), dec_step h10]
theorem dmin_one (f u : Nat) (h : u < 10 ^ (f + 1)) : dmin (f + 1) u 1 = Lib.decDigits u := by
  rw [dmin_go (by omega)]
  have h2 : u / 10 < 10 ^ f := by rw [Nat.pow_succ] at h; omega
  rw [show 1 - 1 = 0 from rfl, dmin_zero f (u / 10) h2]
  by_cases h10 : u < 10
  · rw [if_pos (by omega), dec_small h10, Nat.mod_eq_of_lt h10]
    rfl
  · rw [if_neg (by omega), dec_step h10]
def pad (n : Nat) (l : List UInt8) : List UInt8 := List.replicate (n - l.length) 48 ++ l
theorem dec_pos (u : Nat) : 1 ≤ (Lib.decDigits u).length := by
  by_cases h : u < 10
  · rw [dec_small h]; simp
  · rw [dec_step h]; simp
theorem split_digits : ∀ (d F u : Nat), d ≤ F → u < 10 ^ 30 → dmin 40 (u / 10 ^ d) 1 ++ dmin F (u % 10 ^ d) d = pad (d + 1) (Lib.decDigits u) ∧ (dmin F (u % 10 ^ d) d).length = d
  | 0, F, u, hF, hu => by
    have e : dmin F (u % 10 ^ 0) 0 = [] := dmin_end (by simp [Nat.mod_one])
    have h1 := dec_pos u
    rw [e, Nat.pow_zero, Nat.div_one, dmin_one 39 u (Nat.lt_of_lt_of_le hu (Nat.pow_le_pow_right (by decide) (by decide)))]
    refine ⟨?_, rfl⟩
    unfold pad
    rw [show 0 + 1 - (Lib.decDigits u).length = 0 by omega]
    simp
  | d + 1, F, u, hF, hu => by
    obtain ⟨G, rfl⟩ : ∃ G, F = G + 1 := ⟨F - 1, by omega⟩
    have ih := split_digits d G (u / 10) (by omega) (by omega)
    have e1 : u / 10 ^ (d + 1) = u / 10 / 10 ^ d := by rw [Nat.pow_succ, Nat.mul_comm, Nat.div_div_eq_div_mul]
    have e2 : u % 10 ^ (d + 1) / 10 = u / 10 % 10 ^ d := by
      rw [Nat.pow_succ, Nat.mul_comm, Nat.mod_mul_right_div_self]
    have e3 : u % 10 ^ (d + 1) % 10 = u % 10 := by rw [Nat.pow_succ, Nat.mul_comm]; exact Nat.mod_mul_right_mod u 10 (10 ^ d)
    have eg : dmin (G + 1) (u % 10 ^ (d + 1)) (d + 1) = dmin G (u / 10 % 10 ^ d) d ++ [ch (u % 10)] := by
      rw [dmin_go (by omega), e2, e3]
      rfl
    rw [eg, e1]
    refine ⟨?_, by rw [List.length_append, ih.2]; rfl⟩
    rw [← List.append_assoc, ih.1]
    unfold pad
    by_cases h10 : u < 10
    · have hz : u / 10 = 0 := by omega
      rw [hz, dec_small h10, dec_small (show 0 < 10 by decide), Nat.mod_eq_of_lt h10]
      have : ch 0 = 48 := rfl
      rw [this]
      simp only [List.length_cons, List.length_nil]
      rw [show d + 1 - (0 + 1) = d by omega, show d + 1 + 1 - (0 + 1) = d + 1 by omega, List.replicate_succ']
    · rw [dec_step h10]
      simp only [List.length_append, List.length_cons, List.length_nil]
      rw [show d + 1 + 1 - ((Lib.decDigits (u / 10)).length + (0 + 1)) = d + 1 - (Lib.decDigits (u / 10)).length by omega, List.append_assoc]

/-- an amount's text -/
def txt (a : Int) (d : Nat) : List UInt8 :=
  (if a < 0 then [45] else []) ++ (dmin 40 (a.natAbs / 10 ^ d) 1 ++ if d = 0 then [] else 46 :: dmin 40 (a.natAbs % 10 ^ d) d)
end Go.Proofs.YtcafhmlpmbkhkaaGreatDoor
