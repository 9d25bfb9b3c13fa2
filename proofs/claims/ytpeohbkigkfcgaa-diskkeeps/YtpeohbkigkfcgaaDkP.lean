/- The law's small ones: num (14), isAct (8), pressed (17), begun (6). -/
import Derived.Test.YtpeohbkigkfcgaaDkJ
namespace Go.Proofs.Ytpeohbkigkfcgaa
open Go Go.Shelf Go.ChangeShapes Go.WideShapes Go.ChangeAt Go.RowKit
set_option linter.unusedVariables false
set_option maxRecDepth 100000 in
set_option maxHeartbeats 4000000 in
theorem num_ok (e0 : Int) (w : World) (h0 : 0 ≤ e0) (h1 : e0 ≤ 1000) : Calls Try.prog 14 #[.int .i64 e0] w fun e w' => e = .returned (.int .i64 e0) ∧ w' = w := by
  have hw : IntKind.i64.wrap e0 = e0 := by rw [IntKind.wrap_i64]; omega
  go_enter Try.func14, Try.ntmps14
  go_wp2
  go_ret
  exact ⟨rfl, rfl⟩
def actB (k : Int) : Bool := (decide (3 ≤ k) && decide (k ≤ 7)) || decide (k = 12) || decide (k = 14)
set_option maxRecDepth 100000 in
set_option maxHeartbeats 4000000 in
theorem isAct_ok (k : Int) (w : World) : Calls Try.prog 8 #[.int .i64 k] w fun e w' => e = .returned (.bool (actB k)) ∧ w' = w := by
  unfold actB
  by_cases h1 : 3 ≤ k <;> by_cases h2 : k ≤ 7 <;> by_cases h3 : k = 12 <;> by_cases h4 : k = 14
  all_goals first | (exfalso; omega) | skip
  all_goals
    first | rw [decide_eq_true h1] | rw [decide_eq_false h1]
    first | rw [decide_eq_true h2] | rw [decide_eq_false h2]
    first | rw [decide_eq_true h3] | rw [decide_eq_false h3]
    first | rw [decide_eq_true h4] | rw [decide_eq_false h4]
    go_enter Try.func8, Try.ntmps8
    go_wp2
    go_ret
    first | exact ⟨rfl, rfl⟩ | exact ⟨by simp [h3, h4], rfl⟩
/-- the number that a text is pressed to -/
def prN : List UInt8 → Nat → Nat
  | [], n => n
  | b :: r, n => prN r ((n * 31 + b.toNat) % 6)
theorem prN_lt : ∀ (l : List UInt8) (n : Nat), n < 6 → prN l n < 6
  | [], n, h => h
  | b :: r, n, _ => prN_lt r _ (Nat.mod_lt _ (by decide))
def sixN : List ByteArray := [⟨#[97]⟩, ⟨#[98]⟩, ⟨#[99, 46, 49]⟩, ⟨#[100, 45, 50]⟩, ⟨#[101, 95, 51]⟩, ⟨#[102]⟩]
/-- the name that a text is pressed to -/
def prS (s : ByteArray) : ByteArray := sixN.getD (prN s.data.toList 0) ⟨#[]⟩
theorem six_name : ∀ n : Nat, n < 6 → nameS (sixN.getD n ⟨#[]⟩) = true := by decide
theorem prS_name (s : ByteArray) : nameS (prS s) = true := six_name _ (prN_lt _ _ (by decide))
theorem prN_snoc (b : UInt8) : ∀ (l : List UInt8) (n : Nat), prN (l ++ [b]) n = (prN l n * 31 + b.toNat) % 6
  | [], n => rfl
  | a :: r, n => prN_snoc b r _
theorem pr_step (s : ByteArray) (k : Nat) (hk : k < s.size) : prN (s.data.toList.take (k + 1)) 0 = (prN (s.data.toList.take k) 0 * 31 + bsN s k) % 6 := by
  have h1 : k < s.data.toList.length := by simpa using hk
  have h2 : s.data.toList[k]? = some (s.data.toList[k]) := List.getElem?_eq_getElem h1
  rw [List.take_add_one, h2]
  show prN (_ ++ [s.data.toList[k]]) 0 = _
  rw [prN_snoc]
  unfold bsN
  rw [List.getD_eq_getElem?_getD, h2]
  rfl
def sixV : Array Value := #[.string ⟨#[97]⟩, .string ⟨#[98]⟩, .string ⟨#[99, 46, 49]⟩, .string ⟨#[100, 45, 50]⟩, .string ⟨#[101, 95, 51]⟩, .string ⟨#[102]⟩]
set_option maxRecDepth 100000 in
set_option maxHeartbeats 4000000 in
theorem pressed_ok (s : ByteArray) (hs : s.size ≤ 9223372036854775806) (w : World) : Calls Try.prog 17 #[.string s] w fun e w' => e = .returned (.string (prS s)) ∧ Below w.heap.size w w' := by
  go_enter Try.func17, Try.ntmps17
  go_wp2_with fail
  obtain ⟨w1, hw1⟩ : ∃ w1, w1 = w.alloc (.cells sixV 9) := ⟨_, rfl⟩
  have HB : Hid (Below w.heap.size w w1) := by rw [hw1]; exact bal (Below.refl _ _) _
  have HC : Hid (∀ n, n < 6 → w1.cell? ⟨w.heap.size, n, none⟩ = some (.string (sixN.getD n ⟨#[]⟩))) := by
    intro n hn
    rw [hw1, World.cell?_alloc_mark]
    match n, hn with
    | 0, _ => rfl
    | 1, _ => rfl
    | 2, _ => rfl
    | 3, _ => rfl
    | 4, _ => rfl
    | 5, _ => rfl
  have H1 := hide hw1
  clear hw1
  go_loopw [4, 5] (fun u v wr => ∃ k : Nat, v = .int .i64 (k : Int) ∧ k ≤ s.size ∧ wr = w1 ∧ u = .int .i64 ((prN (s.data.toList.take k) 0 : Nat) : Int)) (fun _ v _ => s.size - (intOf v).toNat)
  case atStart => exact ⟨0, rfl, Nat.zero_le _, (unhide H1).symm, rfl⟩
  case round =>
    obtain ⟨k, rfl, hk, hwr, rfl⟩ := hrel
    obtain ⟨n, hn⟩ : ∃ n, n = prN (s.data.toList.take k) 0 := ⟨_, rfl⟩
    have hn6 : n < 6 := by rw [hn]; exact prN_lt _ _ (by decide)
    rw [← hn]
    have HN := hide hn
    clear hn
    subst hwr
    by_cases hlt : k < s.size
    · have j1 : (k : Int) < (s.size : Int) := by omega
      have j2 : (0 : Int) ≤ (k : Int) := by omega
      go_wp2_with fail
      have hb : s[k].toNat = bsN s k := by
        unfold bsN
        have h1 : k < s.data.toList.length := by simpa using hlt
        rw [List.getD_eq_getElem?_getD, List.getElem?_eq_getElem h1]
        rfl
      have hb2 : bsN s k < 256 := by rw [← hb]; exact s[k].toNat_lt
      refine ⟨⟨k + 1, by go_num, by omega, trivial, ?_⟩, by simp [intOf]; omega⟩
      rw [pr_step s k hlt, ← unhide HN, hb]
      congr 1
      have e1 : wrap64 ((bsN s k : Nat) : Int) = ((bsN s k : Nat) : Int) := by unfold wrap64; omega
      have e2 : wrap64 ((n : Int) * 31 + ((bsN s k : Nat) : Int)) = (n : Int) * 31 + ((bsN s k : Nat) : Int) := by unfold wrap64; omega
      rw [e1, e2, Int.tmod_eq_emod_of_nonneg (by omega)]
      omega
    · have j1 : ¬ (k : Int) < (s.size : Int) := by omega
      have hk' : k = s.size := by omega
      have hc := unhide HC n hn6
      have j3 : (n : Int) < 6 := by omega
      have j2 : (0 : Int) ≤ (n : Int) := by omega
      go_wp2_with fail
      go_ret
      refine ⟨?_, unhide HB⟩
      have : n = prN s.data.toList 0 := by
        rw [unhide HN, hk']
        congr 1
        exact List.take_of_length_le (by simp)
      unfold prS
      rw [← this]
      rfl
theorem tmod_can (x : Int) (h0 : 0 ≤ x) : canBe 0 (x.tmod 1048577) = true := by
  rw [Int.tmod_eq_emod_of_nonneg h0]
  simp only [canBe, Bool.and_eq_true, decide_eq_true_eq]
  omega
/-- the capacity that a number is pressed to -/
def capP (x : Int) : Int := (if x < 0 then -(x + 1) else x).tmod 1048577
theorem capP_can (x : Int) : canBe 0 (capP x) = true := by
  unfold capP
  split
  · exact tmod_can _ (by omega)
  · exact tmod_can _ (by omega)
set_option maxRecDepth 100000 in
set_option maxHeartbeats 4000000 in
theorem begun_ok (x : Int) (hx0 : -9223372036854775808 ≤ x) (hx1 : x ≤ 9223372036854775807) (w : World) : Calls Try.prog 6 #[.int .i64 x] w fun e w' => e = .returned (.tuple #[.pointer (some ⟨w.heap.size, 0, none⟩), .bool true]) ∧ DiskOK w' w.heap.size 0 ⟨capP x, [], -1, false⟩ (fun q => q = w.heap.size) ∧ Below w.heap.size w w' := by
  obtain ⟨C, hC⟩ : ∃ C, C = capP x := ⟨_, rfl⟩
  have hcan := capP_can x
  rw [← hC] at hcan ⊢
  have HN := hide (new_ok C hcan w)
  by_cases hn : x < 0
  · have e1 : wrap64 (x + 1) = x + 1 := by unfold wrap64; omega
    have e2 : wrap64 (-(x + 1)) = -(x + 1) := by unfold wrap64; omega
    have e3 : (-(x + 1)).tmod 1048577 = C := by rw [hC]; unfold capP; rw [if_pos hn]
    clear hC
    go_enter Try.func6, Try.ntmps6
    go_wp2_with fail
    refine (unhide HN).mono ?_
    rintro e w1 ⟨rfl, hd, hb⟩
    have HDB := hide (And.intro hd hb)
    clear hd hb
    go_wp2_with (first | (go_at_call 14; refine (num_ok 0 _ (by omega) (by omega)).mono ?_; rintro e w2 ⟨rfl, hw⟩; rw [hw]; clear hw w2))
    go_ret2
    exact ⟨rfl, unhide HDB⟩
  · have e3 : x.tmod 1048577 = C := by rw [hC]; unfold capP; rw [if_neg hn]
    clear hC
    go_enter Try.func6, Try.ntmps6
    go_wp2_with fail
    refine (unhide HN).mono ?_
    rintro e w1 ⟨rfl, hd, hb⟩
    have HDB := hide (And.intro hd hb)
    clear hd hb
    go_wp2_with (first | (go_at_call 14; refine (num_ok 0 _ (by omega) (by omega)).mono ?_; rintro e w2 ⟨rfl, hw⟩; rw [hw]; clear hw w2))
    go_ret2
    exact ⟨rfl, unhide HDB⟩
end Go.Proofs.Ytpeohbkigkfcgaa
