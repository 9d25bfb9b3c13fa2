import Derived.Test.YtddpladmkmpoaabDoorParN
import Derived.Test.YtddpladmkmpoaabDoorTxtD
namespace Go.Proofs.YtddpladmkmpoaabDoor
open Go.ChangeShapes Go.WideShapes Go.ChangeAt Go.RowKit
set_option linter.unusedVariables false
theorem byte_at (L : List UInt8) (k : Nat) (h : k < L.length) (h' : k < (⟨L.toArray⟩ : ByteArray).size) : (⟨L.toArray⟩ : ByteArray)[k] = L[k] := by
  show L.toArray[k] = L[k]
  simp
def allD (L : List UInt8) : Bool := L.all isDig && decide (¬ L.length = 0)
theorem isDig_iff (c : UInt8) : isDig c = true ↔ 48 ≤ c.toNat ∧ c.toNat ≤ 57 := by simp [isDig]
theorem allD_bad {L : List UInt8} {k : Nat} (h : k < L.length) (hb : ¬ isDig L[k] = true) : allD L = false := by
  have : L.all isDig = false := by
    rw [List.all_eq_false]
    exact ⟨L[k], List.getElem_mem h, hb⟩
  simp [allD, this]
theorem allD_good {L : List UInt8} (h : ∀ j (hj : j < L.length), isDig L[j] = true) : L.all isDig = true := by
  rw [List.all_eq_true]
  intro x hx
  obtain ⟨i, hi, rfl⟩ := List.getElem_of_mem hx
  exact h i hi
theorem sizeL (L : List UInt8) : (⟨L.toArray⟩ : ByteArray).size = L.length := by show L.toArray.size = _; simp
set_option maxHeartbeats 2000000 in
theorem alld_any (L : List UInt8) (w : World) (hs : L.length ≤ 40) : Calls Tryd.prog 37 #[.string ⟨L.toArray⟩] w fun e w' => e = .returned (.bool (allD L)) ∧ w' = w := by
  have hz := sizeL L
  go_enter Tryd.func37, Tryd.ntmps37
  go_wp2
  go_loopw [3, 6] (fun vj vi wr => ∃ k : Nat, k ≤ L.length ∧ vi = .int .i64 k ∧ (∀ j (hj : j < L.length), j < k → isDig L[j] = true) ∧ wr = w) (fun _ i _ => L.length - (RowKit.intOf i).toNat)
  case atStart => exact ⟨0, by omega, rfl, fun j hj h => by omega, rfl⟩
  case round =>
    obtain ⟨k, hk, rfl, hd, rfl⟩ := hrel
    have H := hide hd
    clear hd
    by_cases hlt : k < L.length
    · have hI : (k : Int) < (L.length : Int) := by omega
      have hb := byte_at L k hlt (by rw [hz]; exact hlt)
      obtain ⟨B, hB⟩ : ∃ B : Nat, ((⟨L.toArray⟩ : ByteArray)[k]'(by rw [hz]; exact hlt)).toNat = B := ⟨_, rfl⟩
      have hiff := isDig_iff L[k]
      rw [← hb, hB] at hiff
      have HI := hide hiff
      rw [hb] at HI
      have HL := hide hlt
      clear hiff hb
      by_cases hdg : 48 ≤ B ∧ B ≤ 57
      · have hyes := hide ((unhide HI).2 hdg)
        obtain ⟨h1, h2⟩ := hdg
        go_wp2
        refine ⟨⟨k + 1, by omega, by go_num, ?_, trivial⟩, ?_⟩
        · intro j hj hjk
          by_cases e : j = k
          · subst e; exact unhide hyes
          · exact unhide H j hj (by omega)
        · simp [RowKit.intOf]
          omega
      · have hno := hide (allD_bad (unhide HL) (fun h => hdg ((unhide HI).1 h)))
        have hc : B < 48 ∨ 48 ≤ B ∧ 57 < B := by omega
        clear hdg
        rcases hc with hc | ⟨hc, hc'⟩
        all_goals
          go_wp2
          go_ret
          exact ⟨by rw [unhide hno]; rfl, rfl⟩
    · have hkl : k = L.length := by omega
      have hI : ¬ (k : Int) < (L.length : Int) := by omega
      have hall := hide (allD_good (fun j hj => unhide H j hj (by omega)))
      have hfin := hide (show allD L = !L.isEmpty by unfold allD; rw [unhide hall]; cases L <;> rfl)
      go_wp2
      go_ret
      exact ⟨by rw [unhide hfin]; rfl, rfl⟩
/-- strings.CutPrefix at a minus -/
theorem cutpre (L : List UInt8) (w : World) : Calls Tryd.prog 35 #[.string ⟨L.toArray⟩, .string ⟨#[45]⟩] w fun e w' => e = .returned (.tuple #[.string ⟨(unsg L).toArray⟩, .bool (minusB L)]) ∧ w' = w := by
  have h := Tryd.strings_CutPrefix ⟨L.toArray⟩ ⟨#[45]⟩ w
  have e1 : Lib.hasPrefix L [45] = minusB L := by
    cases L with
    | nil => rfl
    | cons c r => simp [Lib.hasPrefix, minusB, List.isPrefixOf]; rw [Bool.beq_comm]
  have e2 : Lib.trimPrefix L [45] = unsg L := by
    unfold Lib.trimPrefix unsg
    rw [e1]
    cases L with
    | nil => rfl
    | cons c r => rfl
  rw [← e1, ← e2]
  exact h
theorem cutdot (U : List UInt8) (w : World) (m : Int) (hU : U.length ≤ 40) (hm : w.cell? ⟨2, 0, none⟩ = some (.int .i64 m)) : Calls Tryd.prog 36 #[.string ⟨U.toArray⟩, .string ⟨#[46]⟩] w fun e w' => e = .returned (.tuple #[.string ⟨(cutP U).1.toArray⟩, .string ⟨(cutP U).2.1.toArray⟩, .bool (cutP U).2.2]) ∧ ∃ n, w' = w.drewN n :=
  Tryd.strings_Cut ⟨U.toArray⟩ ⟨#[46]⟩ m w (by rw [sizeL]; omega) hm
theorem bytes_below (w : World) (t : ByteArray) : Below w.heap.size w (Lib.bytesWorld w 5 t) := Lib.bytesWorld_below _ _ _
theorem pint_ok (T : List UInt8) (w : World) (hT : T.length ≤ 60) (hd : T.all isDig = true) (hn : ¬ T.length = 0) (n : Nat) (hv : decFrom 0 T = n) (hb : n < 9223372036854775808) : Calls Tryd.prog 39 #[.string ⟨T.toArray⟩, .int .i64 10, .int .i64 64] w fun e w' => e = .returned (.tuple #[.int .i64 n, .nilIface]) ∧ Below w.heap.size w w' := by
  refine (Tryd.strconv_ParseInt_10_at64_ok ⟨T.toArray⟩ (by rw [sizeL]; omega) n (by show Lib.parseIntB 64 T = _; rw [parseI hd hn, hv, if_pos hb]) w).mono ?_
  rintro e w' ⟨rfl, h⟩
  refine ⟨rfl, ?_⟩
  rcases h with rfl | ⟨t, rfl⟩
  · exact Below.refl _ _
  · exact bytes_below _ _
theorem pint_range (T : List UInt8) (w : World) (hT : T.length ≤ 60) (hd : T.all isDig = true) (hn : ¬ T.length = 0) (hb : 9223372036854775808 ≤ decFrom 0 T) (ev : Value) (hv : w.cell? ⟨4, 0, none⟩ = some ev) (hev : ev = .nilIface ∨ ∃ te pe, ev = .iface te pe) : Calls Tryd.prog 39 #[.string ⟨T.toArray⟩, .int .i64 10, .int .i64 64] w fun e w' => ∃ N z, e = .returned (.tuple #[.int .i64 z, .iface 109 (.pointer (some ⟨N, 0, none⟩))]) ∧ Below w.heap.size w w' := by
  refine (Tryd.strconv_ParseInt_10_at64_range ⟨T.toArray⟩ (by rw [sizeL]; omega) (by show Lib.parseIntB 64 T = _; rw [parseI hd hn, if_neg (by omega)]) ev w hv hev).mono ?_
  rintro e w' ⟨N, rfl, _, _, h⟩
  exact ⟨N, _, rfl, h⟩
end Go.Proofs.YtddpladmkmpoaabDoor
