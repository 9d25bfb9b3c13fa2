import Derived.Test.YtcafhmlpmbkhkaaGreatDoorTxtA
namespace Go.Proofs.YtcafhmlpmbkhkaaGreatDoor
open Go.ChangeShapes Go.WideShapes Go.ChangeAt Go.RowKit
set_option linter.unusedVariables false

/-- a digit's byte -/
def ch (c : Nat) : UInt8 := UInt8.ofNat (48 + c)
/-- a text's length -/
def szOf : Value → Nat | .string t => t.size | _ => 0
theorem bapp (a b : List UInt8) : (⟨a.toArray⟩ : ByteArray) ++ ⟨b.toArray⟩ = ⟨(a ++ b).toArray⟩ := by
  apply ByteArray.ext
  simp [ByteArray.data_append]
/-- at least so many digits -/
def dmin : Nat → Nat → Nat → List UInt8
  | 0, _, _ => []
  | f + 1, v, l => if 0 < v ∨ 0 < l then dmin f (v / 10) (l - 1) ++ [ch (v % 10)] else []

theorem dmin_go {f v l : Nat} (h : 0 < v ∨ 0 < l) : dmin (f + 1) v l = dmin f (v / 10) (l - 1) ++ [ch (v % 10)] := by simp [dmin, h]
theorem dmin_end {f v l : Nat} (h : ¬ (0 < v ∨ 0 < l)) : dmin f v l = [] := by
  cases f with
  | zero => rfl
  | succ f => simp [dmin, h]

structure DigAt (v least k x : Nat) (s : List UInt8) : Prop where
  len : s.length = k
  xv : x = v / 10 ^ k
  all : dmin 40 v least = dmin (40 - k) x (least - k) ++ s
theorem DigAt.small {v least k x : Nat} {s : List UInt8} (h : DigAt v least k x s) (hv : v ≤ 9223372036854775807) (hx : 0 < x) : k ≤ 18 := by
  by_cases hk : k ≤ 18
  · exact hk
  · have h1 : 10 ^ 19 ≤ 10 ^ k := Nat.pow_le_pow_right (by decide) (by omega)
    have h2 : v < 10 ^ k := by omega
    rw [h.xv, Nat.div_eq_of_lt h2] at hx
    omega
theorem DigAt.step {v least k x : Nat} {s : List UInt8} (h : DigAt v least k x s) (hk : k < 40) (hg : 0 < x ∨ k < least) : DigAt v least (k + 1) (x / 10) (ch (x % 10) :: s) := by
  refine ⟨by simp [h.len], by rw [h.xv, Nat.pow_succ, Nat.div_div_eq_div_mul], ?_⟩
  have e : 40 - k = (40 - (k + 1)) + 1 := by omega
  rw [h.all, e, dmin_go (by omega), List.append_assoc, show least - k - 1 = least - (k + 1) by omega]
  rfl

theorem conv0 (c : Nat) (hc : c < 10) (W : World) : (convert 196 9 (.slice (some ⟨W.heap.size, 0, none⟩) 1 1)).run Tryz.prog (W.alloc (.cells #[.int .u8 (48 + (c : Int))] 5)) = .ok (.string ⟨#[ch c]⟩) (W.alloc (.cells #[.int .u8 (48 + (c : Int))] 5)) := by
  have h := run_convert_bytes_back (P := Tryz.prog) (W.alloc (.cells #[.int .u8 (48 + (c : Int))] 5)) 196 9 5 ⟨W.heap.size, 0, none⟩ 1 [ch c] Tryz.underlying196 Tryz.underlying5 Tryz.underlying9 (fun j hj => by
    have : j = 0 := by simpa using hj
    subst this
    simp [Addr.add, ch]
    omega)
  exact h

theorem conv1 (x : Nat) (W : World) : (convert 196 9 (.slice (some ⟨W.heap.size, 0, none⟩) 1 1)).run Tryz.prog (W.alloc (.cells #[.int .u8 (48 + (x : Int) % 10)] 5)) = .ok (.string ⟨#[ch (x % 10)]⟩) (W.alloc (.cells #[.int .u8 (48 + (x : Int) % 10)] 5)) := by
  have h := conv0 (x % 10) (by omega) W
  rw [show ((x % 10 : Nat) : Int) = (x : Int) % 10 by omega] at h
  exact h
theorem conv48 (W : World) : (convert 196 9 (.slice (some ⟨W.heap.size, 0, none⟩) 1 1)).run Tryz.prog (W.alloc (.cells #[.int .u8 48] 5)) = .ok (.string ⟨#[ch 0]⟩) (W.alloc (.cells #[.int .u8 48] 5)) := conv0 0 (by decide) W
theorem retS {a b : ByteArray} (h : a = b) : Ending.returned (.string a) = .returned (.string b) := by rw [h]
set_option maxRecDepth 100000 in
set_option maxHeartbeats 2000000 in
theorem digits_any (v least : Nat) (w : World) (h1 : v ≤ 9223372036854775807) (h2 : least ≤ 6) : Calls Tryz.prog 172 #[.int .i64 v, .int .i64 least] w fun e w' => e = .returned (.string ⟨(dmin 40 v least).toArray⟩) ∧ Below w.heap.size w w' := by
  go_enter Tryz.func172, Tryz.ntmps172
  go_wp2
  go_loopw [0, 5] (fun tv ts wr => ∃ (k x : Nat) (s : List UInt8), tv = .int .i64 x ∧ ts = .string ⟨s.toArray⟩ ∧ x ≤ 9223372036854775807 ∧ DigAt v least k x s ∧ Below w.heap.size w wr) (fun tv ts _ => (RowKit.intOf tv).toNat + (least - szOf ts))
  case atStart => exact ⟨0, v, [], rfl, rfl, h1, ⟨rfl, by simp, by simp⟩, Below.refl _ _⟩
  case round =>
    rename_i wr
    obtain ⟨k, x, s, rfl, rfl, hx, hd, hb⟩ := hrel
    have HD := hide hd
    have HB := hide hb
    have hlen : s.length = k := hd.len
    have hsz : ((⟨s.toArray⟩ : ByteArray)).size = k := by show s.toArray.size = k; simpa using hlen
    clear hd hb
    by_cases hg : 0 < x ∨ k < least
    · have hk : k < 40 := by
        rcases hg with hg | hg
        · have := (unhide HD).small h1 hg
          omega
        · omega
      have ST := hide ((unhide HD).step hk hg)
      have hcv := conv1 x wr
      by_cases hp : (0 : Int) < x
      · go_wp2
        refine ⟨⟨k + 1, x / 10, ch (x % 10) :: s, by go_num, congrArg Value.string (bapp [ch (x % 10)] s), by omega, unhide ST, bal (unhide HB) _⟩, ?_⟩
        have e1 : szOf (Value.string ({ data := #[ch (x % 10)] } ++ { data := s.toArray })) = k + 1 := by
          show ({ data := #[ch (x % 10)] } ++ { data := s.toArray } : ByteArray).size = k + 1
          rw [bapp [ch (x % 10)] s]
          show ([ch (x % 10)] ++ s).toArray.size = k + 1
          simp [hlen]
        have e2 : szOf (Value.string { data := s.toArray }) = k := hsz
        rw [e1, e2]
        simp [RowKit.intOf]
        omega
      · have hx0 : x = 0 := by omega
        subst hx0
        have hcv0 := conv48 wr
        have hl : (k : Int) < (least : Int) := by omega
        clear hcv
        go_wp2
        refine ⟨⟨k + 1, 0, ch 0 :: s, by go_num, congrArg Value.string (bapp [ch 0] s), by omega, unhide ST, bal (unhide HB) _⟩, ?_⟩
        have e1 : szOf (Value.string ({ data := #[ch 0] } ++ { data := s.toArray })) = k + 1 := by
          show ({ data := #[ch 0] } ++ { data := s.toArray } : ByteArray).size = k + 1
          rw [bapp [ch 0] s]
          show ([ch 0] ++ s).toArray.size = k + 1
          simp [hlen]
        have e2 : szOf (Value.string { data := s.toArray }) = k := hsz
        rw [e1, e2]
        simp [RowKit.intOf]
        omega
    · have hx0 : x = 0 := by omega
      have hkl : ¬ (k : Int) < (least : Int) := by omega
      have FIN := hide ((unhide HD).all.trans (by rw [dmin_end (by omega), List.nil_append]))
      subst hx0
      clear hg
      go_wp2
      go_ret
      exact ⟨retS (by rw [unhide FIN]), unhide HB⟩

set_option maxRecDepth 100000 in
set_option maxHeartbeats 2000000 in
theorem ten_any (n : Nat) (w : World) (h : n ≤ 6) : Calls Tryz.prog 200 #[.int .i64 n] w fun e w' => e = .returned (.int .i64 ((10 ^ n : Nat) : Int)) ∧ w' = w := by
  have : n = 0 ∨ n = 1 ∨ n = 2 ∨ n = 3 ∨ n = 4 ∨ n = 5 ∨ n = 6 := by omega
  go_enter Tryz.func200, Tryz.ntmps200
  go_wp2
  go_loop [3, 4] (fun v i => ∃ k : Nat, k ≤ n ∧ i = .int .i64 k ∧ v = .int .i64 ((10 ^ k : Nat) : Int)) (fun _ i => n - (RowKit.intOf i).toNat)
  case atStart => exact ⟨0, by omega, rfl, rfl⟩
  case round =>
    obtain ⟨k, hk, rfl, rfl⟩ := hrel
    by_cases hlt : k < n
    · have hb : 10 ^ k ≤ 10 ^ 5 := Nat.pow_le_pow_right (by decide) (by omega)
      obtain ⟨T, hT⟩ : ∃ T, 10 ^ k = T := ⟨_, rfl⟩
      have hT1 : 10 ^ (k + 1) = T * 10 := by rw [Nat.pow_succ, hT]
      rw [hT] at hb ⊢
      have HT := hide hT1
      have hb2 : (T : Int) ≤ 100000 := by omega
      clear hT hT1 hb this
      go_wp2
      go_round
      case rel => exact ⟨k + 1, by omega, by go_num, by rw [unhide HT]; go_num⟩
      case measure => simp [RowKit.intOf]; omega
    · have : k = n := by omega
      subst this
      go_wp2
      go_ret
      exact ⟨rfl, rfl⟩
end Go.Proofs.YtcafhmlpmbkhkaaGreatDoor
