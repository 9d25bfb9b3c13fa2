import Derived.Test.YtjipemnphpnmiabDoorRnA
namespace Go.Proofs.YtjipemnphpnmiabDoor
open Go.ChangeShapes Go.WideShapes Go.ChangeAt Go.RowKit
set_option linter.unusedVariables false
/-- so many last digits -/
def rdg : Nat → Nat → List UInt8
  | 0, _ => []
  | k + 1, n => rdg k (n / 10) ++ [ch (n % 10)]
theorem rdg2 (n : Nat) (h : n < 100) : rdg 2 n = p2 n := by
  simp [rdg, p2]
  rw [show n / 10 % 10 = n / 10 by omega]
theorem rdg4 (n : Nat) (h : n < 10000) : rdg 4 n = p4 n := by
  simp [rdg, p4]
  rw [show n / 10 / 10 / 10 % 10 = n / 1000 by omega, show n / 10 / 10 % 10 = n / 100 % 10 by omega]
  simp
theorem conv0 (c : Nat) (hc : c < 10) (W : World) : (convert 55 9 (.slice (some ⟨W.heap.size, 0, none⟩) 1 1)).run Tryd.prog (W.alloc (.cells #[.int .u8 (48 + (c : Int))] 5)) = .ok (.string ⟨#[ch c]⟩) (W.alloc (.cells #[.int .u8 (48 + (c : Int))] 5)) := by
  have h := run_convert_bytes_back (P := Tryd.prog) (W.alloc (.cells #[.int .u8 (48 + (c : Int))] 5)) 55 9 5 ⟨W.heap.size, 0, none⟩ 1 [ch c] Tryd.underlying55 Tryd.underlying5 Tryd.underlying9 (fun j hj => by
    have : j = 0 := by simpa using hj
    subst this
    simp [Addr.add, ch]
    omega)
  exact h
theorem conv1 (x : Nat) (W : World) : (convert 55 9 (.slice (some ⟨W.heap.size, 0, none⟩) 1 1)).run Tryd.prog (W.alloc (.cells #[.int .u8 (48 + (x : Int) % 10)] 5)) = .ok (.string ⟨#[ch (x % 10)]⟩) (W.alloc (.cells #[.int .u8 (48 + (x : Int) % 10)] 5)) := by
  have h := conv0 (x % 10) (by omega) W
  rw [show ((x % 10 : Nat) : Int) = (x : Int) % 10 by omega] at h
  exact h
set_option maxHeartbeats 2000000 in
theorem rdig (n many : Nat) (w : World) (h1 : n ≤ 9999) (h2 : many ≤ 4) : Calls Tryd.prog 34 #[.int .i64 n, .int .i64 many] w fun e w' => e = .returned (.string ⟨(rdg many n).toArray⟩) ∧ Below w.heap.size w w' := by
  go_enter Tryd.func34, Tryd.ntmps34
  go_wp2
  go_loopw [0, 5, 6] (fun vn vs vi wr => ∃ (k x : Nat) (s : List UInt8), k ≤ many ∧ vi = .int .i64 k ∧ vn = .int .i64 x ∧ vs = .string ⟨s.toArray⟩ ∧ x ≤ 9999 ∧ s.length = k ∧ rdg (many - k) x ++ s = rdg many n ∧ Below w.heap.size w wr) (fun _ _ i _ => many - (RowKit.intOf i).toNat)
  case atStart => exact ⟨0, n, [], by omega, rfl, rfl, rfl, h1, rfl, by simp, Below.refl _ _⟩
  case round =>
    rename_i wr
    obtain ⟨k, x, s, hk, rfl, rfl, rfl, hx, hl, hd, hb⟩ := hrel
    have HB := hide hb
    by_cases hlt : k < many
    · have hd2 : rdg (many - (k + 1)) (x / 10) ++ ch (x % 10) :: s = rdg many n := by
        rw [← hd, show many - k = (many - (k + 1)) + 1 by omega]
        simp [rdg]
      have HD := hide hd2
      have hcv := conv1 x wr
      have hI : (k : Int) < (many : Int) := by omega
      have hl2 : s.length ≤ 4 := by omega
      have HL := hide hl
      clear hd hd2 hb hl
      go_wp2
      refine ⟨⟨k + 1, x / 10, ch (x % 10) :: s, by omega, by go_num, by go_num, congrArg Value.string (bapp [ch (x % 10)] s), by omega, ?_, unhide HD, bal (unhide HB) _⟩, ?_⟩
      · simp [unhide HL]
      · simp [RowKit.intOf]
        omega
    · have hkm : k = many := by omega
      subst hkm
      rw [Nat.sub_self, rdg, List.nil_append] at hd
      have HD := hide hd
      have hI : ¬ (k : Int) < (k : Int) := by omega
      clear hd hb
      go_wp2
      go_ret
      exact ⟨congrArg Ending.returned (congrArg (fun l : List UInt8 => Value.string ⟨l.toArray⟩) (unhide HD)), unhide HB⟩
end Go.Proofs.YtjipemnphpnmiabDoor
