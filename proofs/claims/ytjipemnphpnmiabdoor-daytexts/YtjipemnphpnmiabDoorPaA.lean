import Derived.Test.YtjipemnphpnmiabDoorFiA
namespace Go.Proofs.YtjipemnphpnmiabDoor
open Go.ChangeShapes Go.WideShapes Go.ChangeAt Go.RowKit
set_option linter.unusedVariables false
/-- the number that digits write -/
def dgo : Nat → List UInt8 → Option Nat
  | acc, [] => some acc
  | acc, x :: xs => if 48 ≤ x.toNat ∧ x.toNat ≤ 57 then dgo (acc * 10 + (x.toNat - 48)) xs else none
theorem dgo_yes {acc : Nat} {x : UInt8} {xs : List UInt8} (h : 48 ≤ x.toNat ∧ x.toNat ≤ 57) : dgo acc (x :: xs) = dgo (acc * 10 + (x.toNat - 48)) xs := by rw [dgo, if_pos h]
theorem dgo_no {acc : Nat} {x : UInt8} {xs : List UInt8} (h : ¬ (48 ≤ x.toNat ∧ x.toNat ≤ 57)) : dgo acc (x :: xs) = none := by rw [dgo, if_neg h]
theorem byte_at (L : List UInt8) (k : Nat) (h : k < L.length) (h' : k < (⟨L.toArray⟩ : ByteArray).size) : (⟨L.toArray⟩ : ByteArray)[k] = L[k] := by
  show L.toArray[k] = L[k]
  simp
theorem pow_le3 {k : Nat} (h : k ≤ 3) : 10 ^ k ≤ 1000 := Nat.le_trans (Nat.pow_le_pow_right (by decide) h) (by decide)
set_option maxHeartbeats 2000000 in
theorem ddig (L : List UInt8) (w : World) (hs : L.length ≤ 4) : Calls Tryd.prog 29 #[.string ⟨L.toArray⟩] w fun e w' => e = .returned (.int .i64 ((dgo 0 L).getD 0 : Nat)) ∧ w' = w := by
  have hz : (⟨L.toArray⟩ : ByteArray).size = L.length := by show L.toArray.size = _; simp
  go_enter Tryd.func29, Tryd.ntmps29
  go_wp2
  go_loopw [3, 4, 7] (fun vn vj vi wr => ∃ k n : Nat, k ≤ L.length ∧ vi = .int .i64 k ∧ vn = .int .i64 n ∧ n < 10 ^ k ∧ dgo n (L.drop k) = dgo 0 L ∧ wr = w) (fun _ _ i _ => L.length - (RowKit.intOf i).toNat)
  case atStart => exact ⟨0, 0, by omega, rfl, rfl, by simp, by simp, rfl⟩
  case round =>
    obtain ⟨k, n, hk, rfl, rfl, hn, hd, rfl⟩ := hrel
    by_cases hlt : k < L.length
    · have hI : (k : Int) < (L.length : Int) := by omega
      have hdr := List.drop_eq_getElem_cons hlt
      have hb := byte_at L k hlt (by rw [hz]; exact hlt)
      rw [hdr] at hd
      rw [← hb] at hd
      obtain ⟨B, hB⟩ : ∃ B : Nat, ((⟨L.toArray⟩ : ByteArray)[k]'(by rw [hz]; exact hlt)).toNat = B := ⟨_, rfl⟩
      have hn3 : n < 1000 := Nat.lt_of_lt_of_le hn (pow_le3 (by omega))
      have H3 := hide hn
      clear hdr hn hb
      by_cases hdg : 48 ≤ B ∧ B ≤ 57
      · rw [dgo_yes (by rw [hB]; exact hdg), hB] at hd
        have H1 := hide hd
        clear hd
        obtain ⟨h1, h2⟩ := hdg
        go_wp2
        refine ⟨⟨k + 1, n * 10 + (B - 48), by omega, by go_num, by go_num, ?_, unhide H1, trivial⟩, ?_⟩
        · have := unhide H3
          rw [Nat.pow_succ]
          omega
        · simp [RowKit.intOf]
          omega
      · rw [dgo_no (by rw [hB]; exact hdg)] at hd
        have H1 := hide hd
        clear hd
        have hc : B < 48 ∨ 48 ≤ B ∧ 57 < B := by omega
        clear hdg
        rcases hc with hc | ⟨hc, hc'⟩
        all_goals
          go_wp2
          go_ret
          exact ⟨by rw [← unhide H1]; rfl, rfl⟩
    · have hkl : k = L.length := by omega
      rw [hkl, List.drop_length, dgo] at hd
      have H1 := hide hd
      have hI : ¬ (k : Int) < (L.length : Int) := by omega
      clear hd hn
      go_wp2
      go_ret
      exact ⟨by rw [← unhide H1]; rfl, rfl⟩
end Go.Proofs.YtjipemnphpnmiabDoor
