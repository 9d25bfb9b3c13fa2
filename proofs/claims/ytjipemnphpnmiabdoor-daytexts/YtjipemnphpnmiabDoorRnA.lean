import Derived.Test.YtjipemnphpnmiabDoorPbA
namespace Go.Proofs.YtjipemnphpnmiabDoor
open Go.ChangeShapes Go.WideShapes Go.ChangeAt Go.RowKit
set_option linter.unusedVariables false
/-- the document's number of a text: -1 where it is none -/
def rv (T : ByteArray) : Int := match dgo 0 T.data.toList with | some v => (v : Int) | none => -1
def rvo : Option Nat → Int | some v => (v : Int) | none => -1
theorem ext_list (S : ByteArray) (a b : Nat) : (S.extract a b).data.toList = (S.data.toList.drop a).take (b - a) := by
  rw [ByteArray.data_extract, Array.toList_extract]
theorem rv_eq (S : ByteArray) (a b : Nat) : rv (S.extract a b) = rvo (dgo 0 ((S.data.toList.drop a).take (b - a))) := by
  unfold rv
  rw [ext_list]
  cases dgo 0 ((S.data.toList.drop a).take (b - a)) <;> rfl
set_option maxHeartbeats 2000000 in
theorem rnum (S : ByteArray) (f t : Nat) (w : World) (h1 : f ≤ t) (h2 : t ≤ S.size) (h3 : t - f ≤ 4) (h4 : S.size ≤ 100) : Calls Tryd.prog 31 #[.string S, .int .i64 f, .int .i64 t] w fun e w' => e = .returned (.int .i64 (rv (S.extract f t))) ∧ w' = w := by
  rw [rv_eq]
  go_enter Tryd.func31, Tryd.ntmps31
  go_wp2
  go_loopw [7, 8] (fun vn vi wr => ∃ k n : Nat, f + k ≤ t ∧ vi = .int .i64 ((f + k : Nat) : Int) ∧ vn = .int .i64 n ∧ n < 10 ^ k ∧ dgo n ((S.data.toList.drop (f + k)).take (t - (f + k))) = dgo 0 ((S.data.toList.drop f).take (t - f)) ∧ wr = w) (fun _ i _ => t - (RowKit.intOf i).toNat)
  case atStart => exact ⟨0, 0, by omega, rfl, rfl, by simp, by simp, rfl⟩
  case round =>
    obtain ⟨k, n, hk, rfl, rfl, hn, hd, rfl⟩ := hrel
    by_cases hlt : f + k < t
    · have hI : ((f + k : Nat) : Int) < (t : Int) := by omega
      have hI2 : ((f + k : Nat) : Int) < (S.size : Int) := by omega
      have hlen : f + k < S.data.toList.length := by rw [Array.length_toList]; exact Nat.lt_of_lt_of_le hlt h2
      have hdr : (S.data.toList.drop (f + k)).take (t - (f + k)) = (S[f + k]'(Nat.lt_of_lt_of_le hlt h2)) :: (S.data.toList.drop (f + k + 1)).take (t - (f + k + 1)) := by
        rw [List.drop_eq_getElem_cons hlen, show t - (f + k) = (t - (f + k + 1)) + 1 by omega, List.take_succ_cons, Array.getElem_toList]
        rfl
      rw [hdr] at hd
      obtain ⟨B, hB⟩ : ∃ B : Nat, (S[f + k]'(Nat.lt_of_lt_of_le hlt h2)).toNat = B := ⟨_, rfl⟩
      have hn3 : n < 1000 := Nat.lt_of_lt_of_le hn (pow_le3 (by omega))
      have H3 := hide hn
      clear hdr hn
      by_cases hdg : 48 ≤ B ∧ B ≤ 57
      · rw [dgo_yes (by rw [hB]; exact hdg), hB] at hd
        have H1 := hide hd
        clear hd
        obtain ⟨g1, g2⟩ := hdg
        go_wp2
        refine ⟨⟨k + 1, n * 10 + (B - 48), by omega, by go_num, by go_num, ?_, unhide H1, trivial⟩, ?_⟩
        · have := unhide H3
          rw [Nat.pow_succ]
          omega
        · simp [RowKit.intOf]
          omega
      · rw [dgo_no (by rw [hB]; exact hdg)] at hd
        have H1 := hide hd
        clear hd
        have hc : B < 48 ∨ 48 ≤ B ∧ 57 < B := by omega
        clear hdg
        rcases hc with hc | ⟨hc, hc'⟩
        all_goals
          go_wp2
          go_ret
          exact ⟨by rw [← unhide H1]; rfl, rfl⟩
    · have hkl : f + k = t := by omega
      have hd2 : some n = dgo 0 ((S.data.toList.drop f).take (t - f)) := by
        rw [← hd, hkl, Nat.sub_self, List.take_zero, dgo]
      have H1 := hide hd2
      have hI : ¬ ((f + k : Nat) : Int) < (t : Int) := by omega
      clear hd hn hd2
      go_wp2
      go_ret
      exact ⟨by rw [← unhide H1]; rfl, rfl⟩
end Go.Proofs.YtjipemnphpnmiabDoor
