/- checkpoints' names: the program's Name (4), the document's (5), the law. -/
import Derived.Test.YtbifdnfojbnohaaDoorNmA
import Derived.Test.YtbifdnfojbnohaaDoorShelf
import Derived.WalkKit
import Derived.ProofKit
import Derived.OpenShut
import Derived.WalkLawsBesides
namespace Go.Proofs.YtbifdnfojbnohaaDoor
open Go Go.ChangeShapes Go.WideShapes Go.ChangeAt Go.RowKit
set_option linter.unusedVariables false
/-- six digits -/
def six (n : Nat) : List UInt8 := [ch (n / 100000 % 10), ch (n / 10000 % 10), ch (n / 1000 % 10), ch (n / 100 % 10), ch (n / 10 % 10), ch (n % 10)]
def txt (n : Nat) : List UInt8 := [99, 107, 112, 116, 45] ++ six n
theorem six_len (n : Nat) : (six n).length = 6 := rfl
theorem dmin_six (n : Nat) (h : n < 1000000) : dmin 40 n 6 = six n := by
  rw [dmin_go (by omega), dmin_go (by omega), dmin_go (by omega), dmin_go (by omega), dmin_go (by omega), dmin_go (by omega), dmin_end (by omega)]
  simp only [Nat.div_div_eq_div_mul]
  rfl
theorem dec_step {u : Nat} (h : ¬ u < 10) : Lib.decDigits u = Lib.decDigits (u / 10) ++ [ch (u % 10)] := by
  rw [Lib.decDigits, dif_neg h]; rfl
theorem dec_seven (n : Nat) (h : n < 1000000) : Lib.decDigits (1000000 + n) = ch 1 :: six n := by
  rw [dec_step (by omega), dec_step (by omega), dec_step (by omega), dec_step (by omega), dec_step (by omega), dec_step (by omega), Lib.decDigits_one (by omega)]
  simp only [Nat.div_div_eq_div_mul]
  rw [show (1000000 + n) / (10 * 10 * 10 * 10 * 10 * 10) = 1 by omega, show (1000000 + n) / (10 * 10 * 10 * 10 * 10) % 10 = n / 100000 % 10 by omega, show (1000000 + n) / (10 * 10 * 10 * 10) % 10 = n / 10000 % 10 by omega, show (1000000 + n) / (10 * 10 * 10) % 10 = n / 1000 % 10 by omega, show (1000000 + n) / (10 * 10) % 10 = n / 100 % 10 by omega, show (1000000 + n) / 10 % 10 = n / 10 % 10 by omega, show (1000000 + n) % 10 = n % 10 by omega]
  rfl
/-- the library's table of powers lies in its variable -/
def Pow (w : World) : Prop := Lib.TabIs Tryd.prog w "internal/strconv.uint64pow10" .u64 Lib.pow10Tab
theorem below_gr (w : World) (k : Nat) (os : Array Obj) : Below w.heap.size w (Sort.grow (w.drewN k) os) := by
  refine ⟨rfl, rfl, rfl, ?_, ?_⟩
  · show w.heap.size ≤ (w.heap ++ os).size
    simp
  · intro j hj
    show (w.heap ++ os)[j]? = _
    rw [Array.getElem?_append_left hj]
theorem itoa_at (z : Int) (n : Nat) (hz : z = n) (hn : n ≤ 9999999) (w : World) (hP : Pow w) : Calls Tryd.prog 6 #[.int .i64 z] w fun e w' => e = .returned (.string ⟨(Lib.decDigits n).toArray⟩) ∧ Below w.heap.size w w' := by
  subst hz
  refine (Tryd.strconv_Itoa n (by omega) (by omega) w hP).mono ?_
  rintro e w' ⟨rfl, k, os, rfl⟩
  refine ⟨?_, below_gr _ _ _⟩
  rw [Lib.itoa, if_neg (by omega)]
  rfl
/-- a number's name -/
def nmS (n : Int) : ByteArray := if n < 0 ∨ n > 1000 then ⟨#[]⟩ else ⟨(txt n.toNat).toArray⟩
theorem bsame {a b : List UInt8} (h : a = b) : Ending.returned (.string ⟨a.toArray⟩) = .returned (.string ⟨b.toArray⟩) := by rw [h]
set_option maxRecDepth 100000 in
set_option maxHeartbeats 2000000 in
theorem name_any (n : Int) (w : World) (hP : Pow w) : Calls Tryd.prog 4 #[.int .i64 n] w fun e w' => e = .returned (.string (nmS n)) ∧ Below w.heap.size w w' := by
  unfold nmS
  by_cases h1 : n < 0
  · rw [if_pos (.inl h1)]
    go_enter Tryd.func4, Tryd.ntmps4
    go_wp2_with fail
    go_ret
    exact ⟨rfl, Below.refl _ _⟩
  · by_cases h2 : n > 1000
    · rw [if_pos (.inr h2)]
      go_enter Tryd.func4, Tryd.ntmps4
      go_wp2_with fail
      go_ret
      exact ⟨rfl, Below.refl _ _⟩
    · rw [if_neg (by omega)]
      have hw : IntKind.i64.wrap (1000000 + n) = 1000000 + n := by rw [IntKind.wrap_i64]; omega
      have A := hide (itoa_at (1000000 + n) (1000000 + n.toNat) (by omega) (by omega) w hP)
      rw [dec_seven n.toNat (by omega)] at A
      obtain ⟨L, hL⟩ : ∃ L, L = six n.toNat := ⟨_, rfl⟩
      have hl : L.length = 6 := by rw [hL]; rfl
      have HF : Hid (([99, 107, 112, 116, 45] : List UInt8) ++ L = txt n.toNat) := by show _ = _; rw [hL]; rfl
      rw [← hL] at A
      clear hL hP
      obtain ⟨a, b, c, d, e, f, rfl⟩ : ∃ a b c d e f, L = [a, b, c, d, e, f] := by
        match L, hl with
        | [a, b, c, d, e, f], _ => exact ⟨a, b, c, d, e, f, rfl⟩
      clear hl
      have hs : ∀ W : World, (Instr.sliceAt 9 (.string ⟨[ch 1, a, b, c, d, e, f].toArray⟩) (some (.int .i64 1)) none none).run Tryd.prog W = .ok (.string ⟨[a, b, c, d, e, f].toArray⟩) W := fun W => by
        rw [run_sliceAt_string W 9 _ _ _ _ Tryd.underlying9]
        rfl
      go_enter Tryd.func4, Tryd.ntmps4
      go_wp2_with fail
      refine (unhide A).mono ?_
      rintro x w1 ⟨rfl, c1⟩
      have C1 := hide c1
      clear c1
      go_wp2_with fail
      go_ret
      exact ⟨bsame (unhide HF), unhide C1⟩
set_option maxRecDepth 100000 in
set_option maxHeartbeats 2000000 in
theorem rname_any (n : Int) (w : World) : Calls Tryd.prog 5 #[.int .i64 n] w fun e w' => e = .returned (.string (nmS n)) ∧ Below w.heap.size w w' := by
  unfold nmS
  by_cases h1 : n < 0
  · rw [if_pos (.inl h1)]
    go_enter Tryd.func5, Tryd.ntmps5
    go_wp2_with fail
    go_ret
    exact ⟨rfl, Below.refl _ _⟩
  · by_cases h2 : n > 1000
    · rw [if_pos (.inr h2)]
      go_enter Tryd.func5, Tryd.ntmps5
      go_wp2_with fail
      go_ret
      exact ⟨rfl, Below.refl _ _⟩
    · rw [if_neg (by omega)]
      obtain ⟨m, rfl⟩ : ∃ m : Nat, n = m := ⟨n.toNat, by omega⟩
      have A := hide (digits_any m 6 w (by omega) (by omega))
      rw [dmin_six m (by omega)] at A
      obtain ⟨L, hL⟩ : ∃ L, L = six m := ⟨_, rfl⟩
      have hl : L.length = 6 := by rw [hL]; rfl
      have HF : Hid (([99, 107, 112, 116, 45] : List UInt8) ++ L = txt (m : Int).toNat) := by show _ = _; rw [hL]; rfl
      rw [← hL] at A
      clear hL
      obtain ⟨a, b, c, d, e, f, rfl⟩ : ∃ a b c d e f, L = [a, b, c, d, e, f] := by
        match L, hl with
        | [a, b, c, d, e, f], _ => exact ⟨a, b, c, d, e, f, rfl⟩
      clear hl
      go_enter Tryd.func5, Tryd.ntmps5
      go_wp2_with fail
      refine (unhide A).mono ?_
      rintro x w1 ⟨rfl, c1⟩
      have C1 := hide c1
      clear c1
      go_wp2_with fail
      go_ret
      exact ⟨bsame (unhide HF), unhide C1⟩
set_option maxRecDepth 100000 in
theorem walk (n : Int) (w : World) (hP : Pow w) : Calls Tryd.prog 3 #[.int .i64 n] w fun e w' => e = .returned (.bool true) ∧ Below w.heap.size w w' := by
  have A := hide (name_any n w hP)
  have B := hide (rname_any n)
  clear hP
  go_enter Tryd.func3, Tryd.ntmps3
  go_wp2_with fail
  refine (unhide A).mono ?_
  rintro x w1 ⟨rfl, c1⟩
  have C1 := hide c1
  clear c1
  go_wp2_with fail
  refine (unhide B w1).mono ?_
  rintro x w2 ⟨rfl, c2⟩
  have C2 := hide ((unhide C1).trans (c2.mono (unhide C1).size))
  clear c2
  go_wp2_with fail
  go_ret
  exact ⟨by simp, unhide C2⟩
end Go.Proofs.YtbifdnfojbnohaaDoor
