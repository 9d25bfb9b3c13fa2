/- checksum.Of (52) and the document's Sum (54): the same sum. -/
import Derived.Test.YtpeebhddpmggdaaDoorCrcN
import Derived.WalkKit
import Derived.ProofKit
import Derived.OpenShut
import Derived.WalkLawsBesides
import Derived.BigCall
import Derived.BigQuiet
import Derived.Deep.QuietTactic
import Derived.Laws.BitsAll
import Derived.Lib.LaidTab
import Derived.Below
namespace Go.Proofs.YtpeebhddpmggdaaDoor
open Go Go.ChangeShapes Go.WideShapes Go.ChangeAt Go.RowKit
set_option linter.unusedVariables false
theorem hide {p : Prop} (h : p) : Hid p := h
theorem unhide {p : Prop} (h : Hid p) : p := h
theorem setCell_drewN (w : World) (n : Nat) (a : Addr) (v : Value) : (w.drewN n).setCell a v = (w.setCell a v).drewN n := rfl
theorem alloc_drewN (w : World) (n : Nat) (o : Obj) : (w.drewN n).alloc o = (w.alloc o).drewN n := rfl
theorem bal {w W : World} (h : Below w.heap.size w W) (o : Obj) : Below w.heap.size w (W.alloc o) := h.alloc h.size o
theorem below_drewN {B : Nat} {a w : World} (h : Below B a w) (n : Nat) : Below B a (w.drewN n) := ⟨h.os, h.tape, h.output, h.size, h.block⟩
theorem step_below {B : Nat} {a W w1 : World} (h : Below B a W) (hB : B ≤ a.heap.size) (hb : Below W.heap.size W w1) : Below B a w1 := h.trans (hb.mono (Nat.le_trans hB h.size))
theorem keep1 {W w1 : World} (hb : Below W.heap.size W w1) {b o : Nat} {v : Value} (h : b < W.heap.size) (hv : W.cell? ⟨b, o, none⟩ = some v) : w1.cell? ⟨b, o, none⟩ = some v := (hb.cell (p := ⟨b, o, none⟩) h).trans hv
theorem keepF {W w1 : World} (hb : Below W.heap.size W w1) {b o : Nat} {v : Bool} (h : b < W.heap.size) (hv : W.frozen? ⟨b, o, none⟩ = v) : w1.frozen? ⟨b, o, none⟩ = v := (hb.frozen (p := ⟨b, o, none⟩) h).trans hv
/-- what four bits turn -/
def stl : List Int := [0, 498536548, 997073096, 651767980, 1994146192, 1802195444, 1303535960, 1342533948, 3988292384, 4027552580, 3604390888, 3412177804, 2607071920, 2262029012, 2685067896, 3183342108]
/-- they lie in their variable -/
def Stp (w : World) : Prop := Lib.TabIs Tryd.prog w "daybook/checksum.steps" .u32 stl
theorem stp_no : Tryd.prog.globalNamed "daybook/checksum.steps" = some 0 := by kernel_rfl
theorem stl_tab : ∀ i, i < 16 → stl.getD i 0 = ((tab i : Nat) : Int) := by decide
theorem Stp.cell {w : World} (h : Stp w) (i : Nat) (hi : i < 16) : w.cell? ⟨0, i, none⟩ = some (.int .u32 ((tab i : Nat) : Int)) := by
  rw [← stl_tab i hi]
  exact Lib.TabIs.cell h stp_no i hi
theorem Stp.below {w w' : World} (h : Stp w) (hb : Below w.heap.size w w') : Stp w' := by
  unfold Stp Lib.TabIs World.var? at h ⊢
  rw [stp_no] at h ⊢
  simp only [Option.bind_some] at h ⊢
  have hlt : 0 < w.heap.size := by
    rcases Nat.lt_or_ge 0 w.heap.size with h' | h'
    · exact h'
    · rw [Array.getElem?_eq_none h'] at h; cases h
  rw [hb.block 0 hlt]
  exact h
/-- one turn by four bits, in letters -/
theorem turn4 (s : Nat) (hs : s < 4294967296) : ∃ (M T A : Int) (m : Nat), bits .and .u32 (s : Int) 15 = M ∧ M.toNat = m ∧ m < 16 ∧ 0 ≤ M ∧ M < 16 ∧ T = ((tab m : Nat) : Int) ∧ bits .xor .u32 ((s : Int) / 16) T = A ∧ A = ((steps 4 s : Nat) : Int) := by
  refine ⟨((s % 16 : Nat) : Int), ((tab (s % 16) : Nat) : Int), ((steps 4 s : Nat) : Int), s % 16, ?_, by omega, by omega, by omega, by omega, rfl, ?_, rfl⟩
  · have := u32_and_nat s 15 hs (by omega)
    rw [nat_mask4] at this
    exact this
  · have h1 := tab_lt (s % 16) (by omega)
    have := u32_xor_nat (s / 16) (tab (s % 16)) (by omega) h1
    rw [nib] at this
    rw [← this]
    rfl
set_option maxHeartbeats 2000000 in
theorem of_sum (f : Nat → Nat) (hf : Hid (∀ k, f k < 256)) (b off len cap : Nat) (hl : len ≤ 9223372036854775807) (w : World) (hc : Hid (∀ k, k < len → w.cell? ⟨b, off + k, none⟩ = some (.int .u8 (f k : Int)))) (hS : Hid (Stp w)) :
    Calls Tryd.prog 8 #[.slice (some ⟨b, off, none⟩) len cap] w fun e w' => e = .returned (.int .u32 (crc f len : Int)) ∧ ∃ n, w' = w.drewN n := by
  go_enter Tryd.func8, Tryd.ntmps8
  go_wp2_with fail
  go_loopw [3, 8] (fun s i wr => ∃ k : Nat, k ≤ len ∧ i = .int .i64 (k : Int) ∧ s = .int .u32 (crcAt f k : Int) ∧ wr = w) (fun _ i _ => len - (intOf i).toNat)
  case atStart => exact ⟨0, by omega, rfl, rfl, rfl⟩
  case round =>
    obtain ⟨k, hk, rfl, rfl, rfl⟩ := hrel
    have hS32 := crcAt_lt f (unhide hf) k
    by_cases hlt : k < len
    · have hck := unhide hc k hlt
      have hx := unhide hf k
      have hI : (k : Int) < (len : Int) := by omega
      have hI0 : (0 : Int) ≤ (k : Int) := by omega
      obtain ⟨S, hSe⟩ : ∃ S, crcAt f k = S := ⟨_, rfl⟩
      obtain ⟨X, hXe⟩ : ∃ X, f k = X := ⟨_, rfl⟩
      have hnext := hide (show crcAt f (k + 1) = steps 8 (S ^^^ X) from by rw [← hSe, ← hXe]; rfl)
      rw [hSe] at hS32 ⊢
      rw [hXe] at hck hx
      clear hSe hXe
      have e1 := u32_xor_nat S X hS32 (by omega)
      have h1 := xor_lt32 hS32 (show X < 4294967296 by omega)
      obtain ⟨A1, hA1⟩ : ∃ A : Nat, S ^^^ X = A := ⟨_, rfl⟩
      rw [hA1] at e1 h1 hnext
      obtain ⟨M1, T1, A2, m1, f1, f2, f3, f4, f5, f6, f7, f8⟩ := turn4 A1 h1
      have h2 := steps_lt 4 h1
      obtain ⟨S2, hS2⟩ : ∃ A : Nat, steps 4 A1 = A := ⟨_, rfl⟩
      rw [hS2] at f8 h2
      subst f8
      obtain ⟨M3, T3, A4, m3, g1, g2, g3, g4, g5, g6, g7, g8⟩ := turn4 S2 h2
      have hc1 := (unhide hS).cell m1 f3
      have hc3 := (unhide hS).cell m3 g3
      rw [← f6] at hc1
      rw [← g6] at hc3
      have hfin := hide (show A4 = ((crcAt f (k + 1) : Nat) : Int) from by rw [g8, unhide hnext, ← hS2, steps_add])
      clear hA1 hnext f6 g6 hS2 g8 hS32 h1 h2 f3 g3
      go_wp2_with fail
      refine ⟨⟨k + 1, by omega, by go_num, by rw [unhide hfin], trivial⟩, by simp [intOf]; omega⟩
    · have hkl : k = len := by omega
      subst hkl
      have hI : ¬ (k : Int) < (k : Int) := by omega
      have hlast : bits .xor .u32 IntKind.u32.max (crcAt f k : Int) = ((crc f k : Nat) : Int) := by
        have h := u32_xor_nat 4294967295 (crcAt f k) (by omega) hS32
        rw [Nat.xor_comm] at h
        exact h
      go_wp2_with fail
      go_ret
      exact ⟨rfl, 0, rfl⟩
end Go.Proofs.YtpeebhddpmggdaaDoor
