/- The document's Key, Memo, Tag, Name; names.IsAccount, IsRoot and the document's Root. -/
import Derived.Test.YtcafhmlpmbkhkaaGreatDoorSplA
namespace Go.Proofs.YtcafhmlpmbkhkaaGreatDoor
open Go Go.ChangeShapes Go.WideShapes Go.ChangeAt Go.RowKit
set_option linter.unusedVariables false
/-- a tag byte by byte: the first one a letter -/
def tagI (s : ByteArray) (k : Nat) (c : Nat) : Bool := tagB c && (!decide (k = 0) || loB c)
set_option maxRecDepth 100000 in
set_option maxHeartbeats 4000000 in
set_option maxRecDepth 100000 in
set_option maxHeartbeats 4000000 in
set_option maxRecDepth 100000 in
set_option maxHeartbeats 4000000 in
theorem drop_byte {s : ByteArray} {k : Nat} (h : k < s.size) : s.data.toList.drop k = s[k] :: s.data.toList.drop (k + 1) := by
  have h' : k < s.data.toList.length := by simpa using h
  have e := List.drop_eq_getElem_cons h'
  rw [e]
  simp
  rfl
theorem nm_step (parts size : Nat) (c : UInt8) (l : List UInt8) : nm parts size (c :: l) = if c = 58 then (if size = 0 then false else nm (parts + 1) 0 l) else if (size = 0 ∧ upB c.toNat = false) ∨ partB c.toNat = false then false else if 16 < size + 1 then false else nm parts (size + 1) l := rfl
theorem spl_le : ∀ (l p : List UInt8), p ∈ spl l → p.length ≤ l.length
  | [], p, h => by simp [spl] at h; subst h; simp
  | c :: l, p, h => by
    by_cases hc : c = 58
    · rw [spl, if_pos hc] at h
      rcases List.mem_cons.1 h with h | h
      · subst h; simp
      · have := spl_le l p h; simp; omega
    · obtain ⟨a, t, e⟩ := spl_ne l
      rw [spl_cons hc e] at h
      have ha := spl_le l a (by rw [e]; exact List.mem_cons_self)
      rcases List.mem_cons.1 h with h | h
      · subst h; simp; omega
      · have := spl_le l p (by rw [e]; exact List.mem_cons_of_mem _ h); simp; omega
set_option maxRecDepth 100000 in
set_option maxHeartbeats 4000000 in
theorem isAccount_any (s : ByteArray) (hs : s.size < 4611686018427387904) (w : World) : Calls Tryz.prog 161 #[.string s] w fun e w' => e = .returned (.bool (nameL s.data.toList)) ∧ Below w.heap.size w w' := by
  have d1 := hide (Tryz.strings_Count_one s 58 w)
  obtain ⟨c, hc⟩ : ∃ c, s.data.toList.count 58 = c := ⟨_, rfl⟩
  have hcb : Lib.countByte s.data.toList 58 = c := hc
  rw [hcb] at d1
  have hnm := hide (show nameL s.data.toList = (decide (s.data.toList.count 58 < 6) && (spl s.data.toList).all partL) from rfl)
  rw [hc] at hnm
  obtain ⟨xs, hxs⟩ : ∃ xs, xs = spl s.data.toList := ⟨_, rfl⟩
  have hlen : Hid (xs.length = c + 1) := by rw [hxs, spl_len, hc]; rfl
  have hsz : Hid (∀ k (hk : k < xs.length), (⟨(xs[k]).toArray⟩ : ByteArray).size ≤ 9223372036854775807) := fun k hk => by
    have h1 : xs[k] ∈ spl s.data.toList := by rw [← hxs]; exact List.getElem_mem hk
    have h2 := spl_le _ _ h1
    have h3 : s.data.toList.length = s.size := by simp
    have h4 : (⟨(xs[k]).toArray⟩ : ByteArray).size = (xs[k]).length := by simp [ByteArray.size]
    omega
  rw [← hxs] at hnm
  have hpl : ∀ l : List UInt8, partS ⟨l.toArray⟩ = partL l := fun l => partS_eq _
  have HPL := hide hpl
  clear hpl
  by_cases h6 : c < 6
  · have d2 := hide (split_any s hs c hc h6 w)
    rw [← hxs] at d2
    have i6 : ¬ (6 : Int) ≤ (c : Int) := by omega
    rw [decide_eq_true h6] at hnm
    clear hc hcb hxs
    go_enter Tryz.func161, Tryz.ntmps161
    go_wp2_with fail
    refine (unhide d1).mono ?_
    rintro e w1 ⟨rfl, hw⟩
    rw [hw]
    clear hw w1
    go_wp2_with fail
    refine (unhide d2).mono ?_
    rintro e w1 ⟨rfl, hb1, hce1⟩
    have B1 := hide hb1
    have hcell1 : Hid (∀ k (hk : k < xs.length), w1.cell? ⟨w.heap.size, k, none⟩ = some (.string ⟨(xs[k]).toArray⟩)) := fun k hk => by
      rw [hce1 k (by have := unhide hlen; omega)]
      simp [List.getD, hk]
    clear hb1 hce1
    go_wp2_with fail
    go_loopw [11, 4] (fun vi v4 wr => ∃ k : Nat, k ≤ c + 1 ∧ vi = .int .i64 k ∧ (∀ j (hj : j < xs.length), j < k → partL xs[j] = true) ∧ wr = w1) (fun i _ _ => c + 1 - (RowKit.intOf i).toNat)
    case atStart => exact ⟨0, by omega, rfl, fun j hj h => by omega, rfl⟩
    case round =>
      obtain ⟨k, hk, rfl, hd, rfl⟩ := hrel
      have H := hide hd
      clear hd
      have hl := unhide hlen
      by_cases hlt : k < c + 1
      · have hI : (k : Int) < (c : Int) + 1 := by omega
        have hI0 : (0 : Int) ≤ (k : Int) := by omega
        have hkx : k < xs.length := by omega
        have HK := hide hkx
        obtain ⟨X, hX, hce, dp⟩ : ∃ X, (⟨(xs[k]'hkx).toArray⟩ : ByteArray) = X ∧ wr.cell? ⟨w.heap.size, k, none⟩ = some (.string X) ∧ Hid (∀ W, Calls Tryz.prog 206 #[.string X] W fun e w' => e = .returned (.bool (partS X)) ∧ w' = W) := ⟨_, rfl, unhide hcell1 k hkx, isPart_any _ (unhide hsz k hkx)⟩
        have HX := hide hX
        have HPX : Hid (partS X = partL (xs[k]'hkx)) := by rw [← hX]; exact unhide HPL _
        clear hX hl
        by_cases hp : partS X = true
        · rw [hp] at dp HPX
          go_wp2_with fail
          refine (unhide dp wr).mono ?_
          rintro e w2 ⟨rfl, hw⟩
          rw [hw]
          clear hw w2
          go_wp2_with fail
          refine ⟨⟨k + 1, by omega, by go_num, ?_, trivial⟩, by simp [RowKit.intOf]; omega⟩
          intro j hj hjk
          by_cases e : j = k
          · subst e; exact (unhide HPX).symm
          · exact unhide H j hj (by omega)
        · have hp' : partS X = false := by simpa using hp
          rw [hp'] at dp HPX
          have hno : Hid (nameL s.data.toList = false) := by
            rw [unhide hnm]
            have : xs.all partL = false := List.all_eq_false.2 ⟨xs[k]'(unhide HK), List.getElem_mem _, by rw [← unhide HPX]; simp⟩
            rw [this]
            rfl
          go_wp2_with fail
          refine (unhide dp wr).mono ?_
          rintro e w2 ⟨rfl, hw⟩
          rw [hw]
          clear hw w2
          go_wp2_with fail
          go_ret
          exact ⟨by rw [unhide hno]; rfl, unhide B1⟩
      · have hkl : k = c + 1 := by omega
        have hI : ¬ (k : Int) < (c : Int) + 1 := by omega
        have hyes : Hid (nameL s.data.toList = true) := by
          rw [unhide hnm]
          have : xs.all partL = true := List.all_eq_true.2 fun x hx => by
            obtain ⟨i, hi, rfl⟩ := List.getElem_of_mem hx
            exact unhide H i hi (by omega)
          rw [this]
          rfl
        clear hkl hl
        go_wp2_with fail
        go_ret
        exact ⟨by rw [unhide hyes]; rfl, unhide B1⟩
  · have i6 : (6 : Int) ≤ (c : Int) := by omega
    rw [decide_eq_false h6] at hnm
    clear hc hcb hxs
    go_enter Tryz.func161, Tryz.ntmps161
    go_wp2_with fail
    refine (unhide d1).mono ?_
    rintro e w1 ⟨rfl, hw⟩
    rw [hw]
    clear hw w1
    go_wp2_with fail
    go_ret
    exact ⟨by rw [unhide hnm]; rfl, Below.refl _ _⟩
theorem root_index (l : List UInt8) : decide (0 ≤ Lib.indexByte l 58) = l.contains 58 := by
  induction l with
  | nil => rfl
  | cons a l ih =>
    have hg := Lib.indexByte_ge l 58
    rw [Lib.indexByte, List.contains_cons, ← ih]
    by_cases ha : a = 58
    · subst ha
      rfl
    · rw [if_neg (by simpa using ha)]
      have h2 : ((58 : UInt8) == a) = false := by simpa using fun e => ha e.symm
      rw [h2, Bool.false_or]
      by_cases h3 : Lib.indexByte l 58 = -1
      · rw [h3]; rfl
      · rw [if_neg (by simpa using h3)]
        have h4 : 0 ≤ Lib.indexByte l 58 := by omega
        have h5 : 0 ≤ Lib.indexByte l 58 + 1 := by omega
        rw [decide_eq_true h4, decide_eq_true h5]
/-- a name of one part -/
def rootS (s : ByteArray) : Bool := !s.data.toList.contains 58
theorem isRoot_any (s : ByteArray) (w : World) : Calls Tryz.prog 256 #[.string s] w fun e w' => e = .returned (.bool (rootS s)) ∧ w' = w := by
  have d := hide (Tryz.strings_Contains_one s 58 w)
  have e1 : decide (0 ≤ Lib.indexByte s.data.toList 58) = !rootS s := by
    rw [root_index, rootS, Bool.not_not]
  rw [e1] at d
  go_enter Tryz.func256, Tryz.ntmps256
  go_wp2_with fail
  refine (unhide d).mono ?_
  rintro e w1 ⟨rfl, hw⟩
  rw [hw]
  clear hw w1
  go_wp2_with fail
  go_ret
  exact ⟨by simp, rfl⟩
end Go.Proofs.YtcafhmlpmbkhkaaGreatDoor
