/- disk: which names (269, 209). -/
import Derived.Test.YtpeohbkigkfcgaaBas
import Derived.Lib.ConvBytes
import Derived.Lib.Strings
namespace Go.Proofs.Ytpeohbkigkfcgaa
open Go Go.ChangeShapes Go.WideShapes Go.ChangeAt Go.RowKit
set_option linter.unusedVariables false
def nameB (c : Nat) : Bool := (decide (97 ≤ c) && decide (c ≤ 122)) || (decide (48 ≤ c) && decide (c ≤ 57)) || decide (c = 46) || decide (c = 45) || decide (c = 95)
set_option maxHeartbeats 1000000 in
theorem inName_any (c : Nat) (w : World) : Calls Try.prog 57 #[.int .u8 (c : Int)] w fun e w' => e = .returned (.bool (nameB c)) ∧ w' = w := by
  by_cases h1 : 97 ≤ c
  · by_cases h2 : c ≤ 122
    · have i0 : (97 : Int) ≤ (c : Int) := by omega
      have i1 : (c : Int) ≤ 122 := by omega
      have hv : nameB c = true := by simp [nameB]; omega
      rw [hv]
      go_enter Try.func57, Try.ntmps57
      go_wp2_with fail
      go_ret
      exact ⟨rfl, rfl⟩
    · have i0 : (97 : Int) ≤ (c : Int) := by omega
      have i1 : ¬ (c : Int) ≤ 122 := by omega
      have i2 : (48 : Int) ≤ (c : Int) := by omega
      have i3 : ¬ (c : Int) ≤ 57 := by omega
      have i4 : ((c : Int) == 46) = false := by simp; omega
      have i5 : ((c : Int) == 45) = false := by simp; omega
      have i6 : ((c : Int) == 95) = false := by simp; omega
      have hv : nameB c = false := by simp [nameB]; omega
      rw [hv]
      go_enter Try.func57, Try.ntmps57
      go_wp2_with fail
      go_ret
      exact ⟨rfl, rfl⟩
  · by_cases h2 : 48 ≤ c
    · by_cases h3 : c ≤ 57
      · have i0 : ¬ (97 : Int) ≤ (c : Int) := by omega
        have i1 : (48 : Int) ≤ (c : Int) := by omega
        have i2 : (c : Int) ≤ 57 := by omega
        have hv : nameB c = true := by simp [nameB]; omega
        rw [hv]
        go_enter Try.func57, Try.ntmps57
        go_wp2_with fail
        go_ret
        exact ⟨rfl, rfl⟩
      · by_cases h4 : c = 95
        · have i0 : ¬ (97 : Int) ≤ (c : Int) := by omega
          have i1 : (48 : Int) ≤ (c : Int) := by omega
          have i2 : ¬ (c : Int) ≤ 57 := by omega
          have i3 : ((c : Int) == 46) = false := by simp; omega
          have i4 : ((c : Int) == 45) = false := by simp; omega
          have i5 : ((c : Int) == 95) = true := by simp; omega
          have hv : nameB c = true := by simp [nameB]; omega
          rw [hv]
          go_enter Try.func57, Try.ntmps57
          go_wp2_with fail
          go_ret
          exact ⟨rfl, rfl⟩
        · have i0 : ¬ (97 : Int) ≤ (c : Int) := by omega
          have i1 : (48 : Int) ≤ (c : Int) := by omega
          have i2 : ¬ (c : Int) ≤ 57 := by omega
          have i3 : ((c : Int) == 46) = false := by simp; omega
          have i4 : ((c : Int) == 45) = false := by simp; omega
          have i5 : ((c : Int) == 95) = false := by simp; omega
          have hv : nameB c = false := by simp [nameB]; omega
          rw [hv]
          go_enter Try.func57, Try.ntmps57
          go_wp2_with fail
          go_ret
          exact ⟨rfl, rfl⟩
    · by_cases h4 : c = 46
      · have i0 : ¬ (97 : Int) ≤ (c : Int) := by omega
        have i1 : ¬ (48 : Int) ≤ (c : Int) := by omega
        have i2 : ((c : Int) == 46) = true := by simp; omega
        have hv : nameB c = true := by simp [nameB]; omega
        rw [hv]
        go_enter Try.func57, Try.ntmps57
        go_wp2_with fail
        go_ret
        exact ⟨rfl, rfl⟩
      · by_cases h5 : c = 45
        · have i0 : ¬ (97 : Int) ≤ (c : Int) := by omega
          have i1 : ¬ (48 : Int) ≤ (c : Int) := by omega
          have i2 : ((c : Int) == 46) = false := by simp; omega
          have i3 : ((c : Int) == 45) = true := by simp; omega
          have hv : nameB c = true := by simp [nameB]; omega
          rw [hv]
          go_enter Try.func57, Try.ntmps57
          go_wp2_with fail
          go_ret
          exact ⟨rfl, rfl⟩
        · have i0 : ¬ (97 : Int) ≤ (c : Int) := by omega
          have i1 : ¬ (48 : Int) ≤ (c : Int) := by omega
          have i2 : ((c : Int) == 46) = false := by simp; omega
          have i3 : ((c : Int) == 45) = false := by simp; omega
          have i4 : ((c : Int) == 95) = false := by simp; omega
          have hv : nameB c = false := by simp [nameB]; omega
          rw [hv]
          go_enter Try.func57, Try.ntmps57
          go_wp2_with fail
          go_ret
          exact ⟨rfl, rfl⟩
/-- a text's bytes -/
def bsN (s : ByteArray) (j : Nat) : Nat := (s.data.toList.getD j 0).toNat
def nameS (s : ByteArray) : Bool := decide (1 ≤ s.size) && decide (s.size ≤ 40) && (List.range s.size).all fun j => nameB (bsN s j)
theorem nameS_bad {s : ByteArray} {k : Nat} (h : k < s.size) (hb : nameB (bsN s k) = false) : nameS s = false := by
  have : ((List.range s.size).all fun j => nameB (bsN s j)) = false := by
    rw [List.all_eq_false]
    exact ⟨k, List.mem_range.2 h, by simp [hb]⟩
  simp [nameS, this]
theorem nameS_good {s : ByteArray} (h1 : 1 ≤ s.size) (h2 : s.size ≤ 40) (h : ∀ k, k < s.size → nameB (bsN s k) = true) : nameS s = true := by
  have : ((List.range s.size).all fun j => nameB (bsN s j)) = true := by
    rw [List.all_eq_true]
    exact fun j hj => h j (List.mem_range.1 hj)
  simp [nameS, this, h1, h2]
theorem empty_of_size {s : ByteArray} (h : s.size = 0) : s = ⟨#[]⟩ := by
  obtain ⟨d⟩ := s
  have : d = #[] := Array.size_eq_zero_iff.1 h
  rw [this]
theorem ne_of_size {s : ByteArray} (h : ¬ s.size = 0) : s.toList.isEmpty = false := by
  rw [Lib.toList_data, List.isEmpty_eq_false_iff]
  intro e
  have := congrArg List.length e
  exact h (by simpa using this)
set_option maxRecDepth 100000 in
set_option maxHeartbeats 2000000 in
theorem isName_any (s : ByteArray) (hs : s.size ≤ 9223372036854775807) (w : World) : Calls Try.prog 49 #[.string s] w fun e w' => e = .returned (.bool (nameS s)) ∧ Below w.heap.size w w' := by
  by_cases h0 : s.size = 0
  · obtain rfl := empty_of_size h0
    go_enter Try.func49, Try.ntmps49
    go_wp2_with fail
    go_ret
    exact ⟨rfl, Below.refl _ _⟩
  · have he := ne_of_size h0
    by_cases h40 : s.size ≤ 40
    · have i1 : ¬ (40 : Int) < (s.size : Int) := by omega
      have hcv := Lib.run_convert_string_bytes (P := Try.prog) w 9 27 5 s Try.underlying9 Try.underlying27 Try.underlying5
      obtain ⟨w1, hw1⟩ : ∃ w1, w1 = Lib.bytesWorld w 5 s := ⟨_, rfl⟩
      obtain ⟨C, hC⟩ : ∃ C, C = grownCap w s.size 0 5 := ⟨_, rfl⟩
      have HCL : Hid (∀ j, j < s.size → w1.cell? ⟨w.heap.size, j, none⟩ = some (.int .u8 (bsN s j : Int))) := fun j hj => by rw [hw1]; exact Lib.bytesWorld_cell w 5 s j hj
      have HB : Hid (Below w.heap.size w w1) := by
        rw [hw1]
        exact ⟨rfl, rfl, rfl, by rw [Lib.bytesWorld_size]; omega, fun k hk => Lib.bytesWorld_at_old w 5 s k hk⟩
      rw [← hw1, ← hC] at hcv
      clear hw1 hC
      go_enter Try.func49, Try.ntmps49
      go_wp2_with fail
      go_loopw [15] (fun v wr => ∃ k : Nat, v = .int .i64 (k : Int) ∧ k ≤ s.size ∧ wr = w1 ∧ ∀ j, j < k → nameB (bsN s j) = true) (fun v _ => s.size - (intOf v).toNat)
      case atStart => exact ⟨0, rfl, by omega, rfl, fun j hj => by omega⟩
      case round =>
        obtain ⟨k, rfl, hk, hwr, hall⟩ := hrel
        subst hwr
        have HA := hide hall
        clear hall
        by_cases hlt : k < s.size
        · have j1 : (k : Int) < (s.size : Int) := by omega
          have j2 : (0 : Int) ≤ (k : Int) := by omega
          have hc := unhide HCL k hlt
          go_wp2_with fail
          refine (inName_any (bsN s k) wr).mono ?_
          rintro e w2 ⟨rfl, hw2⟩
          rw [hw2]
          clear hw2 w2
          cases hb : nameB (bsN s k) with
          | false =>
            go_wp2_with fail
            go_ret
            exact ⟨by rw [nameS_bad hlt hb]; rfl, unhide HB⟩
          | true =>
            go_wp2_with fail
            refine ⟨⟨k + 1, by go_num, by omega, trivial, fun j hj => ?_⟩, by simp [intOf]; omega⟩
            by_cases e : j = k
            · rw [e]; exact hb
            · exact unhide HA j (by omega)
        · have j1 : ¬ (k : Int) < (s.size : Int) := by omega
          have hk' : k = s.size := by omega
          go_wp2_with fail
          go_ret
          exact ⟨by rw [nameS_good (by omega) h40 (fun j hj => unhide HA j (by omega))]; rfl, unhide HB⟩
    · have i1 : (40 : Int) < (s.size : Int) := by omega
      have hv : nameS s = false := by simp [nameS]; omega
      go_enter Try.func49, Try.ntmps49
      go_wp2_with fail
      go_ret
      exact ⟨by rw [hv]; rfl, Below.refl _ _⟩
end Go.Proofs.Ytpeohbkigkfcgaa
