import Derived.Test.YtcafhmlpmbkhkaaGreatDoorW02
import Derived.Test.YtcafhmlpmbkhkaaGreatDoorW07
/- strings.Split (77) at a colon, whatever the length. -/
namespace Go.Proofs.YtcafhmlpmbkhkaaGreatDoor
open Go Go.ChangeShapes Go.WideShapes Go.ChangeAt Go.RowKit
set_option linter.unusedVariables false
theorem spl_byte : ∀ (l : List UInt8), 0 < l.count 58 → ∃ i : Nat, i < l.length ∧ Lib.indexByte l 58 = (i : Int) ∧ spl l = l.take i :: spl (l.drop (i + 1)) ∧ l.count 58 = (l.drop (i + 1)).count 58 + 1
  | [], h => by simp at h
  | c :: l, h => by
    by_cases hc : c = 58
    · subst hc
      exact ⟨0, by simp, by simp [Lib.indexByte], by simp [spl], by simp⟩
    · have h' : 0 < l.count 58 := by rw [List.count_cons_of_ne (by simpa using hc)] at h; exact h
      obtain ⟨i, h0, h1, h2, h3⟩ := spl_byte l h'
      refine ⟨i + 1, by simp; omega, ?_, ?_, ?_⟩
      · rw [Lib.indexByte, if_neg (by simpa using hc), h1, if_neg (by simp)]
        omega
      · rw [spl_cons hc h2]
        rfl
      · rw [List.count_cons_of_ne (by simpa using hc), h3]
        rfl
theorem spl_one : ∀ {l h : List UInt8}, spl l = [h] → h = l
  | [], h, e => by simp [spl] at e; exact e
  | c :: l, h, e => by
    by_cases hc : c = 58
    · rw [spl, if_pos hc] at e
      obtain ⟨a, t, e2⟩ := spl_ne l
      rw [e2] at e
      simp at e
    · obtain ⟨a, t, e2⟩ := spl_ne l
      rw [spl_cons hc e2] at e
      simp only [List.cons.injEq] at e
      obtain ⟨e3, e4⟩ := e
      subst e4
      rw [← e3, spl_one e2]
theorem ext_take (x : ByteArray) (i : Nat) : (x.extract 0 i).data.toList = x.data.toList.take i := by
  rw [ByteArray.data_extract, Array.toList_extract, List.extract_eq_take_drop, List.drop_zero, Nat.sub_zero]
theorem ext_drop (x : ByteArray) (i : Nat) : (x.extract i x.size).data.toList = x.data.toList.drop i := by
  rw [ByteArray.data_extract, Array.toList_extract, List.extract_eq_take_drop, List.take_of_length_le (by simp)]
theorem text_of {x : ByteArray} {l : List UInt8} (h : x.data.toList = l) : x = ⟨l.toArray⟩ := by
  obtain ⟨d⟩ := x
  simp only at h
  rw [← h]
/-- while a text is cut: so many parts lie in the new block -/
structure CutAt (w : World) (s x : ByteArray) (c j : Nat) (wr : World) : Prop where
  below : Below w.heap.size w wr
  lt : w.heap.size < wr.heap.size
  fz : ∀ k, wr.frozen? ⟨w.heap.size, k, none⟩ = false
  any : ∀ k, k < c + 1 → ∃ v, wr.cell? ⟨w.heap.size, k, none⟩ = some v
  cells : ∀ k, k < j → wr.cell? ⟨w.heap.size, k, none⟩ = some (.string ⟨((spl s.data.toList).getD k []).toArray⟩)
  rest : spl x.data.toList = (spl s.data.toList).drop j
  cnt : x.data.toList.count 58 + j = c
  le : x.size ≤ s.size
set_option maxRecDepth 100000 in
set_option maxHeartbeats 2000000 in
theorem genSplit_any (s : ByteArray) (hs : s.size < 4611686018427387904) (c : Nat) (hc : s.data.toList.count 58 = c) (hc6 : c < 6) (w : World) :
    Calls Tryz.prog 250 #[.string s, .string ⟨#[58]⟩, .int .i64 0, .int .i64 (-1)] w fun e w' => e = .returned (.slice (some ⟨w.heap.size, 0, none⟩) (c + 1) (c + 1)) ∧ Below w.heap.size w w' ∧ ∀ k, k < c + 1 → w'.cell? ⟨w.heap.size, k, none⟩ = some (.string ⟨((spl s.data.toList).getD k []).toArray⟩) := by
  have d1 := hide (Tryz.strings_Count_one s 58 w)
  have hcb : Lib.countByte s.data.toList 58 = c := hc
  rw [hcb] at d1
  have hcl : c ≤ s.size := by rw [← hc]; have := List.count_le_length (a := (58 : UInt8)) (l := s.data.toList); simpa using this
  have hmin : min ((c : Int) + 1) ((s.size : Int) + 1) = (c : Int) + 1 := by omega
  obtain ⟨i0, hi, hz0, hz1, hz2⟩ := info_parts info9
  have hmk0 := run_make (P := Tryz.prog) w 93 9 i0 _ Tryz.underlying93 hi hz0 .i64 .i64 ((c : Int) + 1) ((c : Int) + 1) (by omega) (by omega) (by rw [hz2]; omega) (by omega)
  have ec : ((c : Int) + 1).toNat = c + 1 := by omega
  rw [ec] at hmk0
  obtain ⟨W1, hmk, hcut⟩ : ∃ W1, (Instr.makeSlice 93 (.int .i64 ((c : Int) + 1)) (.int .i64 ((c : Int) + 1))).run Tryz.prog w = .ok (.slice (some ⟨w.heap.size, 0, none⟩) (c + 1) (c + 1)) W1 ∧ Hid (CutAt w s s c 0 W1) := by
    refine ⟨_, hmk0, (Below.refl _ _).alloc (Nat.le_refl _) _, by simp, fun k => by simp, fun k hk => ?_, fun k hk => by omega, rfl, by omega, Nat.le_refl _⟩
    rw [World.cell?_alloc_mark]
    exact ⟨_, Array.getElem?_eq_getElem (by rw [size_madeCells, hz1]; omega)⟩
  clear hi hz0 hz1 hz2 hmk0 ec
  have hI6 : (c : Int) + 1 - 1 = (c : Int) := by omega
  go_enter Tryz.func250, Tryz.ntmps250
  go_wp2_with fail
  refine (unhide d1).mono ?_
  rintro e w1 ⟨rfl, hw⟩
  rw [hw]
  clear hw w1
  go_wp2_with fail
  go_loopw [0, 10] (fun vs vi wr => ∃ (x : ByteArray) (j : Nat), vs = .string x ∧ vi = .int .i64 (j : Int) ∧ CutAt w s x c j wr) (fun _ vi _ => c - (intOf vi).toNat)
  case atStart => exact ⟨s, 0, rfl, rfl, unhide hcut⟩
  case round =>
    obtain ⟨x, j, rfl, rfl, hC⟩ := hrel
    have HC := hide hC
    have hcnt := hC.cnt
    have hxs := hC.le
    by_cases hlt : j < c
    · obtain ⟨i, hi0, hi1, hi2, hi3⟩ := spl_byte x.data.toList (by omega)
      have hil : i < x.size := by simpa using hi0
      have dI := hide (Tryz.strings_Index_one x 58 wr)
      rw [hi1] at dI
      have hI : (j : Int) < (c : Int) := by omega
      obtain ⟨v0, hv0⟩ := hC.any j (by omega)
      have hfz := hC.fz j
      have H2 := hide hi2
      have H3 := hide hi3
      have hII : (i : Int) ≤ (x.size : Int) := by omega
      have hII1 : (i : Int) + 1 ≤ (x.size : Int) := by omega
      clear hC hi0 hi1 hi2 hi3 hcut hcnt
      go_wp2_with fail
      refine (unhide dI).mono ?_
      rintro e w1 ⟨rfl, hw⟩
      rw [hw]
      clear hw w1
      go_wp2_with fail
      have hC := unhide HC
      have h2 := unhide H2
      have h3 := unhide H3
      have hcnt := hC.cnt
      have hr := hC.rest
      rw [h2] at hr
      have hjl : j < (spl s.data.toList).length := by rw [spl_len]; omega
      have hget : (spl s.data.toList).getD j [] = x.data.toList.take i := by
        have e := congrArg List.head? hr
        rw [List.head?_drop] at e
        simp only [List.head?_cons] at e
        rw [List.getD, ← e]
        rfl
      refine ⟨⟨_, j + 1, rfl, by go_num, hC.below.setCell (Nat.le_refl _) _, by simpa using hC.lt, fun k => by simpa using hC.fz k, fun k hk => ?_, fun k hk => ?_, ?_, ?_, ?_⟩, by simp [intOf]; omega⟩
      · by_cases e : k = j
        · subst e
          exact ⟨_, World.cell?_setCell_same _ _ _ hv0⟩
        · rw [World.cell?_setCell_other _ _ _ _ (by intro h'; injection h' with _ h' _; omega)]
          exact hC.any k hk
      · by_cases e : k = j
        · subst e
          rw [World.cell?_setCell_same _ _ _ hv0, hget, text_of (ext_take x i)]
        · rw [World.cell?_setCell_other _ _ _ _ (by intro h'; injection h' with _ h' _; omega)]
          exact hC.cells k (by omega)
      · rw [ext_drop]
        have e := congrArg (List.drop 1) hr
        rw [List.drop_drop] at e
        exact e
      · rw [ext_drop]; omega
      · have h := congrArg List.length (ext_drop x (i + 1))
        have h' : (x.extract (i + 1) x.size).size = (x.data.toList.drop (i + 1)).length := by rw [← h]; simp
        rw [h', List.length_drop]
        simp
        omega
    · have hjc : j = c := by omega
      subst hjc
      have hI : ¬ (j : Int) < (j : Int) := by omega
      obtain ⟨v0, hv0⟩ := hC.any j (by omega)
      have hfz := hC.fz j
      clear hC hcut
      go_wp2_with fail
      go_ret
      have hC := unhide HC
      have hr := hC.rest
      have hx : spl x.data.toList = [x.data.toList] := by
        obtain ⟨h, t, e⟩ := spl_ne x.data.toList
        have hl := spl_len x.data.toList
        rw [e] at hl
        have ht : t = [] := by
          have hk := hC.cnt
          have : t.length = 0 := by rw [List.length_cons] at hl; omega
          exact List.eq_nil_of_length_eq_zero this
        subst ht
        rw [e]
        exact congrArg (fun y => [y]) (spl_one e)
      rw [hx] at hr
      have hget : (spl s.data.toList).getD j [] = x.data.toList := by
        have e := congrArg List.head? hr
        rw [List.head?_drop] at e
        simp only [List.head?_cons] at e
        rw [List.getD, ← e]
        rfl
      refine ⟨by simp, hC.below.setCell (Nat.le_refl _) _, fun k hk => ?_⟩
      by_cases e : k = j
      · subst e
        rw [World.cell?_setCell_same _ _ _ hv0]
        show _ = some (Value.string ⟨((spl s.data.toList).getD k []).toArray⟩)
        rw [hget, ← text_of (x := x) rfl]
      · rw [World.cell?_setCell_other _ _ _ _ (by intro h'; injection h' with _ h' _; omega)]
        exact hC.cells k (by omega)
set_option maxHeartbeats 1000000 in
theorem split_any (s : ByteArray) (hs : s.size < 4611686018427387904) (c : Nat) (hc : s.data.toList.count 58 = c) (hc6 : c < 6) (w : World) :
    Calls Tryz.prog 205 #[.string s, .string ⟨#[58]⟩] w fun e w' => e = .returned (.slice (some ⟨w.heap.size, 0, none⟩) (c + 1) (c + 1)) ∧ Below w.heap.size w w' ∧ ∀ k, k < c + 1 → w'.cell? ⟨w.heap.size, k, none⟩ = some (.string ⟨((spl s.data.toList).getD k []).toArray⟩) := by
  have d := hide (genSplit_any s hs c hc hc6 w)
  go_enter Tryz.func205, Tryz.ntmps205
  go_wp2_with fail
  refine (unhide d).mono ?_
  rintro e w1 ⟨rfl, hb, hcell⟩
  have HB := hide (And.intro hb hcell)
  clear hb hcell
  go_wp2_with fail
  go_ret
  exact ⟨rfl, unhide HB⟩
end Go.Proofs.YtcafhmlpmbkhkaaGreatDoor
/- The document's Key, Memo, Tag, Name; names.IsAccount, IsRoot and the document's Root. -/
namespace Go.Proofs.YtcafhmlpmbkhkaaGreatDoor
open Go Go.ChangeShapes Go.WideShapes Go.ChangeAt Go.RowKit
set_option linter.unusedVariables false
/-- a tag byte by byte: the first one a letter -/
def tagI (s : ByteArray) (k : Nat) (c : Nat) : Bool := tagB c && (!decide (k = 0) || loB c)
set_option maxRecDepth 100000 in
set_option maxHeartbeats 4000000 in
set_option maxRecDepth 100000 in
set_option maxHeartbeats 4000000 in
set_option maxRecDepth 100000 in
set_option maxHeartbeats 4000000 in
theorem drop_byte {s : ByteArray} {k : Nat} (h : k < s.size) : s.data.toList.drop k = s[k] :: s.data.toList.drop (k + 1) := by
  have h' : k < s.data.toList.length := by simpa using h
  have e := List.drop_eq_getElem_cons h'
  rw [e]
  simp
  rfl
theorem nm_step (parts size : Nat) (c : UInt8) (l : List UInt8) : nm parts size (c :: l) = if c = 58 then (if size = 0 then false else nm (parts + 1) 0 l) else if (size = 0 ∧ upB c.toNat = false) ∨ partB c.toNat = false then false else if 16 < size + 1 then false else nm parts (size + 1) l := rfl
theorem spl_le : ∀ (l p : List UInt8), p ∈ spl l → p.length ≤ l.length
  | [], p, h => by simp [spl] at h; subst h; simp
  | c :: l, p, h => by
    by_cases hc : c = 58
    · rw [spl, if_pos hc] at h
      rcases List.mem_cons.1 h with h | h
      · subst h; simp
      · have := spl_le l p h; simp; omega
    · obtain ⟨a, t, e⟩ := spl_ne l
      rw [spl_cons hc e] at h
      have ha := spl_le l a (by rw [e]; exact List.mem_cons_self)
      rcases List.mem_cons.1 h with h | h
      · subst h; simp; omega
      · have := spl_le l p (by rw [e]; exact List.mem_cons_of_mem _ h); simp; omega
set_option maxRecDepth 100000 in
set_option maxHeartbeats 4000000 in
theorem isAccount_any (s : ByteArray) (hs : s.size < 4611686018427387904) (w : World) : Calls Tryz.prog 161 #[.string s] w fun e w' => e = .returned (.bool (nameL s.data.toList)) ∧ Below w.heap.size w w' := by
  have d1 := hide (Tryz.strings_Count_one s 58 w)
  obtain ⟨c, hc⟩ : ∃ c, s.data.toList.count 58 = c := ⟨_, rfl⟩
  have hcb : Lib.countByte s.data.toList 58 = c := hc
  rw [hcb] at d1
  have hnm := hide (show nameL s.data.toList = (decide (s.data.toList.count 58 < 6) && (spl s.data.toList).all partL) from rfl)
  rw [hc] at hnm
  obtain ⟨xs, hxs⟩ : ∃ xs, xs = spl s.data.toList := ⟨_, rfl⟩
  have hlen : Hid (xs.length = c + 1) := by rw [hxs, spl_len, hc]; rfl
  have hsz : Hid (∀ k (hk : k < xs.length), (⟨(xs[k]).toArray⟩ : ByteArray).size ≤ 9223372036854775807) := fun k hk => by
    have h1 : xs[k] ∈ spl s.data.toList := by rw [← hxs]; exact List.getElem_mem hk
    have h2 := spl_le _ _ h1
    have h3 : s.data.toList.length = s.size := by simp
    have h4 : (⟨(xs[k]).toArray⟩ : ByteArray).size = (xs[k]).length := by simp [ByteArray.size]
    omega
  rw [← hxs] at hnm
  have hpl : ∀ l : List UInt8, partS ⟨l.toArray⟩ = partL l := fun l => partS_eq _
  have HPL := hide hpl
  clear hpl
  by_cases h6 : c < 6
  · have d2 := hide (split_any s hs c hc h6 w)
    rw [← hxs] at d2
    have i6 : ¬ (6 : Int) ≤ (c : Int) := by omega
    rw [decide_eq_true h6] at hnm
    clear hc hcb hxs
    go_enter Tryz.func161, Tryz.ntmps161
    go_wp2_with fail
    refine (unhide d1).mono ?_
    rintro e w1 ⟨rfl, hw⟩
    rw [hw]
    clear hw w1
    go_wp2_with fail
    refine (unhide d2).mono ?_
    rintro e w1 ⟨rfl, hb1, hce1⟩
    have B1 := hide hb1
    have hcell1 : Hid (∀ k (hk : k < xs.length), w1.cell? ⟨w.heap.size, k, none⟩ = some (.string ⟨(xs[k]).toArray⟩)) := fun k hk => by
      rw [hce1 k (by have := unhide hlen; omega)]
      simp [List.getD, hk]
    clear hb1 hce1
    go_wp2_with fail
    go_loopw [11, 4] (fun vi v4 wr => ∃ k : Nat, k ≤ c + 1 ∧ vi = .int .i64 k ∧ (∀ j (hj : j < xs.length), j < k → partL xs[j] = true) ∧ wr = w1) (fun i _ _ => c + 1 - (RowKit.intOf i).toNat)
    case atStart => exact ⟨0, by omega, rfl, fun j hj h => by omega, rfl⟩
    case round =>
      obtain ⟨k, hk, rfl, hd, rfl⟩ := hrel
      have H := hide hd
      clear hd
      have hl := unhide hlen
      by_cases hlt : k < c + 1
      · have hI : (k : Int) < (c : Int) + 1 := by omega
        have hI0 : (0 : Int) ≤ (k : Int) := by omega
        have hkx : k < xs.length := by omega
        have HK := hide hkx
        obtain ⟨X, hX, hce, dp⟩ : ∃ X, (⟨(xs[k]'hkx).toArray⟩ : ByteArray) = X ∧ wr.cell? ⟨w.heap.size, k, none⟩ = some (.string X) ∧ Hid (∀ W, Calls Tryz.prog 206 #[.string X] W fun e w' => e = .returned (.bool (partS X)) ∧ w' = W) := ⟨_, rfl, unhide hcell1 k hkx, isPart_any _ (unhide hsz k hkx)⟩
        have HX := hide hX
        have HPX : Hid (partS X = partL (xs[k]'hkx)) := by rw [← hX]; exact unhide HPL _
        clear hX hl
        by_cases hp : partS X = true
        · rw [hp] at dp HPX
          go_wp2_with fail
          refine (unhide dp wr).mono ?_
          rintro e w2 ⟨rfl, hw⟩
          rw [hw]
          clear hw w2
          go_wp2_with fail
          refine ⟨⟨k + 1, by omega, by go_num, ?_, trivial⟩, by simp [RowKit.intOf]; omega⟩
          intro j hj hjk
          by_cases e : j = k
          · subst e; exact (unhide HPX).symm
          · exact unhide H j hj (by omega)
        · have hp' : partS X = false := by simpa using hp
          rw [hp'] at dp HPX
          have hno : Hid (nameL s.data.toList = false) := by
            rw [unhide hnm]
            have : xs.all partL = false := List.all_eq_false.2 ⟨xs[k]'(unhide HK), List.getElem_mem _, by rw [← unhide HPX]; simp⟩
            rw [this]
            rfl
          go_wp2_with fail
          refine (unhide dp wr).mono ?_
          rintro e w2 ⟨rfl, hw⟩
          rw [hw]
          clear hw w2
          go_wp2_with fail
          go_ret
          exact ⟨by rw [unhide hno]; rfl, unhide B1⟩
      · have hkl : k = c + 1 := by omega
        have hI : ¬ (k : Int) < (c : Int) + 1 := by omega
        have hyes : Hid (nameL s.data.toList = true) := by
          rw [unhide hnm]
          have : xs.all partL = true := List.all_eq_true.2 fun x hx => by
            obtain ⟨i, hi, rfl⟩ := List.getElem_of_mem hx
            exact unhide H i hi (by omega)
          rw [this]
          rfl
        clear hkl hl
        go_wp2_with fail
        go_ret
        exact ⟨by rw [unhide hyes]; rfl, unhide B1⟩
  · have i6 : (6 : Int) ≤ (c : Int) := by omega
    rw [decide_eq_false h6] at hnm
    clear hc hcb hxs
    go_enter Tryz.func161, Tryz.ntmps161
    go_wp2_with fail
    refine (unhide d1).mono ?_
    rintro e w1 ⟨rfl, hw⟩
    rw [hw]
    clear hw w1
    go_wp2_with fail
    go_ret
    exact ⟨by rw [unhide hnm]; rfl, Below.refl _ _⟩
theorem root_index (l : List UInt8) : decide (0 ≤ Lib.indexByte l 58) = l.contains 58 := by
  induction l with
  | nil => rfl
  | cons a l ih =>
    have hg := Lib.indexByte_ge l 58
    rw [Lib.indexByte, List.contains_cons, ← ih]
    by_cases ha : a = 58
    · subst ha
      rfl
    · rw [if_neg (by simpa using ha)]
      have h2 : ((58 : UInt8) == a) = false := by simpa using fun e => ha e.symm
      rw [h2, Bool.false_or]
      by_cases h3 : Lib.indexByte l 58 = -1
      · rw [h3]; rfl
      · rw [if_neg (by simpa using h3)]
        have h4 : 0 ≤ Lib.indexByte l 58 := by omega
        have h5 : 0 ≤ Lib.indexByte l 58 + 1 := by omega
        rw [decide_eq_true h4, decide_eq_true h5]
/-- a name of one part -/
def rootS (s : ByteArray) : Bool := !s.data.toList.contains 58
theorem isRoot_any (s : ByteArray) (w : World) : Calls Tryz.prog 256 #[.string s] w fun e w' => e = .returned (.bool (rootS s)) ∧ w' = w := by
  have d := hide (Tryz.strings_Contains_one s 58 w)
  have e1 : decide (0 ≤ Lib.indexByte s.data.toList 58) = !rootS s := by
    rw [root_index, rootS, Bool.not_not]
  rw [e1] at d
  go_enter Tryz.func256, Tryz.ntmps256
  go_wp2_with fail
  refine (unhide d).mono ?_
  rintro e w1 ⟨rfl, hw⟩
  rw [hw]
  clear hw w1
  go_wp2_with fail
  go_ret
  exact ⟨by simp, rfl⟩
end Go.Proofs.YtcafhmlpmbkhkaaGreatDoor
/- chart: Good (6), the document's Good (7), Parent (10). -/
namespace Go.Proofs.YtcafhmlpmbkhkaaGreatDoor
open Go Go.ChangeShapes Go.WideShapes Go.ChangeAt Go.RowKit
set_option linter.unusedVariables false
set_option maxHeartbeats 1000000 in
theorem good_any (s : ByteArray) (hs : s.size < 4611686018427387904) (w : World) : Calls Tryz.prog 76 #[.string s] w fun e w' => e = .returned (.bool (nameL s.data.toList)) ∧ Below w.heap.size w w' := by
  have d := hide (isAccount_any s hs w)
  go_enter Tryz.func76, Tryz.ntmps76
  go_wp2_with fail
  refine (unhide d).mono ?_
  rintro e w1 ⟨rfl, hb⟩
  have HB := hide hb
  clear hb
  go_wp2_with fail
  go_ret
  exact ⟨rfl, unhide HB⟩
/-- the name above, and whether there is one -/
def parS (l : List UInt8) : ByteArray × Bool := if nameL l = true then (match ups l with | [] => (⟨#[]⟩, false) | p :: _ => (⟨p.toArray⟩, true)) else (⟨#[]⟩, false)
theorem ups_len_lt {s : ByteArray} {p : List UInt8} {t : List (List UInt8)} (h : ups s.data.toList = p :: t) : p.length < s.size := by
  by_cases hc : s.data.toList.contains 58 = true
  · obtain ⟨j, hj, _, hu, _⟩ := ups_some s hc
    rw [hu] at h
    injection h with h _
    rw [← h, List.length_take]
    omega
  · rw [ups_none _ (by simpa using hc)] at h
    cases h
set_option maxHeartbeats 2000000 in
theorem parent_any (s : ByteArray) (hs : s.size < 4611686018427387904) (w : World) : Calls Tryz.prog 216 #[.string s] w fun e w' => e = .returned (.tuple #[.string (parS s.data.toList).1, .bool (parS s.data.toList).2]) ∧ Below w.heap.size w w' := by
  have d := hide (good_any s hs w)
  by_cases hn : nameL s.data.toList = true
  · rw [hn] at d
    have dr := hide (isRoot_any s)
    by_cases hc : s.data.toList.contains 58 = true
    · obtain ⟨j, hj, hl, hu, hnn⟩ := ups_some s hc
      have hr : rootS s = false := by unfold rootS; rw [hc]; rfl
      rw [hr] at dr
      have dl := hide (fun W => Tryz.strings_LastIndex_one s ⟨#[58]⟩ rfl hs W)
      have e58 : (((⟨#[58]⟩ : ByteArray)[0]'(by decide)).toNat : Int) = 58 := rfl
      rw [e58, hl] at dl
      have hp : Hid (parS s.data.toList = (⟨(s.data.toList.take j).toArray⟩, true)) := by
        unfold parS
        rw [if_pos hn, hu]
        rfl
      have hjI : (j : Int) ≤ (s.size : Int) := by omega
      clear hn hc hl hu hnn hr e58
      go_enter Tryz.func216, Tryz.ntmps216
      go_wp2_with fail
      refine (unhide d).mono ?_
      rintro e w1 ⟨rfl, hb⟩
      have HB := hide hb
      clear hb
      go_wp2_with fail
      refine (unhide dr w1).mono ?_
      rintro e w2 ⟨rfl, hw⟩
      rw [hw]
      clear hw w2
      go_wp2_with fail
      refine (unhide dl w1).mono ?_
      rintro e w2 ⟨rfl, hw⟩
      rw [hw]
      clear hw w2
      go_wp2_with fail
      go_ret2
      rw [unhide hp, text_of (ext_take s j)]
      exact ⟨rfl, unhide HB⟩
    · have hc' : s.data.toList.contains 58 = false := by simpa using hc
      have hr : rootS s = true := by unfold rootS; rw [hc']; rfl
      rw [hr] at dr
      have hp : Hid (parS s.data.toList = (⟨#[]⟩, false)) := by
        unfold parS
        rw [if_pos hn, ups_none _ hc']
        rfl
      clear hn hc hc' hr
      go_enter Tryz.func216, Tryz.ntmps216
      go_wp2_with fail
      refine (unhide d).mono ?_
      rintro e w1 ⟨rfl, hb⟩
      have HB := hide hb
      clear hb
      go_wp2_with fail
      refine (unhide dr w1).mono ?_
      rintro e w2 ⟨rfl, hw⟩
      rw [hw]
      clear hw w2
      go_wp2_with fail
      go_ret2
      rw [unhide hp]
      exact ⟨rfl, unhide HB⟩
  · have hn' : nameL s.data.toList = false := by simpa using hn
    rw [hn'] at d
    have hp : Hid (parS s.data.toList = (⟨#[]⟩, false)) := by
      unfold parS
      rw [if_neg hn]
      rfl
    clear hn hn'
    go_enter Tryz.func216, Tryz.ntmps216
    go_wp2_with fail
    refine (unhide d).mono ?_
    rintro e w1 ⟨rfl, hb⟩
    have HB := hide hb
    clear hb
    go_wp2_with fail
    go_ret2
    rw [unhide hp]
    exact ⟨rfl, unhide HB⟩
end Go.Proofs.YtcafhmlpmbkhkaaGreatDoor
