/- strings.Split (77) at a colon, whatever the length. -/
import Derived.Test.YtcafhmlpmbkhkaaGreatDoorRowT
import Derived.Test.YtcafhmlpmbkhkaaGreatDoorShelf
namespace Go.Proofs.YtcafhmlpmbkhkaaGreatDoor
open Go Go.ChangeShapes Go.WideShapes Go.ChangeAt Go.RowKit
set_option linter.unusedVariables false
theorem spl_byte : ∀ (l : List UInt8), 0 < l.count 58 → ∃ i : Nat, i < l.length ∧ Lib.indexByte l 58 = (i : Int) ∧ spl l = l.take i :: spl (l.drop (i + 1)) ∧ l.count 58 = (l.drop (i + 1)).count 58 + 1
  | [], h => by simp at h
  | c :: l, h => by
    by_cases hc : c = 58
    · subst hc
      exact ⟨0, by simp, by simp [Lib.indexByte], by simp [spl], by simp⟩
    · have h' : 0 < l.count 58 := by rw [List.count_cons_of_ne (by simpa using hc)] at h; exact h
      obtain ⟨i, h0, h1, h2, h3⟩ := spl_byte l h'
      refine ⟨i + 1, by simp; omega, ?_, ?_, ?_⟩
      · rw [Lib.indexByte, if_neg (by simpa using hc), h1, if_neg (by simp)]
        omega
      · rw [spl_cons hc h2]
        rfl
      · rw [List.count_cons_of_ne (by simpa using hc), h3]
        rfl
theorem spl_one : ∀ {l h : List UInt8}, spl l = [h] → h = l
  | [], h, e => by simp [spl] at e; exact e
  | c :: l, h, e => by
    by_cases hc : c = 58
    · rw [spl, if_pos hc] at e
      obtain ⟨a, t, e2⟩ := spl_ne l
      rw [e2] at e
      simp at e
    · obtain ⟨a, t, e2⟩ := spl_ne l
      rw [spl_cons hc e2] at e
      simp only [List.cons.injEq] at e
      obtain ⟨e3, e4⟩ := e
      subst e4
      rw [← e3, spl_one e2]
theorem ext_take (x : ByteArray) (i : Nat) : (x.extract 0 i).data.toList = x.data.toList.take i := by
  rw [ByteArray.data_extract, Array.toList_extract, List.extract_eq_take_drop, List.drop_zero, Nat.sub_zero]
theorem ext_drop (x : ByteArray) (i : Nat) : (x.extract i x.size).data.toList = x.data.toList.drop i := by
  rw [ByteArray.data_extract, Array.toList_extract, List.extract_eq_take_drop, List.take_of_length_le (by simp)]
theorem text_of {x : ByteArray} {l : List UInt8} (h : x.data.toList = l) : x = ⟨l.toArray⟩ := by
  obtain ⟨d⟩ := x
  simp only at h
  rw [← h]
/-- while a text is cut: so many parts lie in the new block -/
structure CutAt (w : World) (s x : ByteArray) (c j : Nat) (wr : World) : Prop where
  below : Below w.heap.size w wr
  lt : w.heap.size < wr.heap.size
  fz : ∀ k, wr.frozen? ⟨w.heap.size, k, none⟩ = false
  any : ∀ k, k < c + 1 → ∃ v, wr.cell? ⟨w.heap.size, k, none⟩ = some v
  cells : ∀ k, k < j → wr.cell? ⟨w.heap.size, k, none⟩ = some (.string ⟨((spl s.data.toList).getD k []).toArray⟩)
  rest : spl x.data.toList = (spl s.data.toList).drop j
  cnt : x.data.toList.count 58 + j = c
  le : x.size ≤ s.size
set_option maxRecDepth 100000 in
set_option maxHeartbeats 2000000 in
theorem genSplit_any (s : ByteArray) (hs : s.size < 4611686018427387904) (c : Nat) (hc : s.data.toList.count 58 = c) (hc6 : c < 6) (w : World) :
    Calls Tryz.prog 250 #[.string s, .string ⟨#[58]⟩, .int .i64 0, .int .i64 (-1)] w fun e w' => e = .returned (.slice (some ⟨w.heap.size, 0, none⟩) (c + 1) (c + 1)) ∧ Below w.heap.size w w' ∧ ∀ k, k < c + 1 → w'.cell? ⟨w.heap.size, k, none⟩ = some (.string ⟨((spl s.data.toList).getD k []).toArray⟩) := by
  have d1 := hide (Tryz.strings_Count_one s 58 w)
  have hcb : Lib.countByte s.data.toList 58 = c := hc
  rw [hcb] at d1
  have hcl : c ≤ s.size := by rw [← hc]; have := List.count_le_length (a := (58 : UInt8)) (l := s.data.toList); simpa using this
  have hmin : min ((c : Int) + 1) ((s.size : Int) + 1) = (c : Int) + 1 := by omega
  obtain ⟨i0, hi, hz0, hz1, hz2⟩ := info_parts info9
  have hmk0 := run_make (P := Tryz.prog) w 93 9 i0 _ Tryz.underlying93 hi hz0 .i64 .i64 ((c : Int) + 1) ((c : Int) + 1) (by omega) (by omega) (by rw [hz2]; omega) (by omega)
  have ec : ((c : Int) + 1).toNat = c + 1 := by omega
  rw [ec] at hmk0
  obtain ⟨W1, hmk, hcut⟩ : ∃ W1, (Instr.makeSlice 93 (.int .i64 ((c : Int) + 1)) (.int .i64 ((c : Int) + 1))).run Tryz.prog w = .ok (.slice (some ⟨w.heap.size, 0, none⟩) (c + 1) (c + 1)) W1 ∧ Hid (CutAt w s s c 0 W1) := by
    refine ⟨_, hmk0, (Below.refl _ _).alloc (Nat.le_refl _) _, by simp, fun k => by simp, fun k hk => ?_, fun k hk => by omega, rfl, by omega, Nat.le_refl _⟩
    rw [World.cell?_alloc_mark]
    exact ⟨_, Array.getElem?_eq_getElem (by rw [size_madeCells, hz1]; omega)⟩
  clear hi hz0 hz1 hz2 hmk0 ec
  have hI6 : (c : Int) + 1 - 1 = (c : Int) := by omega
  go_enter Tryz.func250, Tryz.ntmps250
  go_wp2_with fail
  refine (unhide d1).mono ?_
  rintro e w1 ⟨rfl, hw⟩
  rw [hw]
  clear hw w1
  go_wp2_with fail
  go_loopw [0, 10] (fun vs vi wr => ∃ (x : ByteArray) (j : Nat), vs = .string x ∧ vi = .int .i64 (j : Int) ∧ CutAt w s x c j wr) (fun _ vi _ => c - (intOf vi).toNat)
  case atStart => exact ⟨s, 0, rfl, rfl, unhide hcut⟩
  case round =>
    obtain ⟨x, j, rfl, rfl, hC⟩ := hrel
    have HC := hide hC
    have hcnt := hC.cnt
    have hxs := hC.le
    by_cases hlt : j < c
    · obtain ⟨i, hi0, hi1, hi2, hi3⟩ := spl_byte x.data.toList (by omega)
      have hil : i < x.size := by simpa using hi0
      have dI := hide (Tryz.strings_Index_one x 58 wr)
      rw [hi1] at dI
      have hI : (j : Int) < (c : Int) := by omega
      obtain ⟨v0, hv0⟩ := hC.any j (by omega)
      have hfz := hC.fz j
      have H2 := hide hi2
      have H3 := hide hi3
      have hII : (i : Int) ≤ (x.size : Int) := by omega
      have hII1 : (i : Int) + 1 ≤ (x.size : Int) := by omega
      clear hC hi0 hi1 hi2 hi3 hcut hcnt
      go_wp2_with fail
      refine (unhide dI).mono ?_
      rintro e w1 ⟨rfl, hw⟩
      rw [hw]
      clear hw w1
      go_wp2_with fail
      have hC := unhide HC
      have h2 := unhide H2
      have h3 := unhide H3
      have hcnt := hC.cnt
      have hr := hC.rest
      rw [h2] at hr
      have hjl : j < (spl s.data.toList).length := by rw [spl_len]; omega
      have hget : (spl s.data.toList).getD j [] = x.data.toList.take i := by
        have e := congrArg List.head? hr
        rw [List.head?_drop] at e
        simp only [List.head?_cons] at e
        rw [List.getD, ← e]
        rfl
      refine ⟨⟨_, j + 1, rfl, by go_num, hC.below.setCell (Nat.le_refl _) _, by simpa using hC.lt, fun k => by simpa using hC.fz k, fun k hk => ?_, fun k hk => ?_, ?_, ?_, ?_⟩, by simp [intOf]; omega⟩
      · by_cases e : k = j
        · subst e
          exact ⟨_, World.cell?_setCell_same _ _ _ hv0⟩
        · rw [World.cell?_setCell_other _ _ _ _ (by intro h'; injection h' with _ h' _; omega)]
          exact hC.any k hk
      · by_cases e : k = j
        · subst e
          rw [World.cell?_setCell_same _ _ _ hv0, hget, text_of (ext_take x i)]
        · rw [World.cell?_setCell_other _ _ _ _ (by intro h'; injection h' with _ h' _; omega)]
          exact hC.cells k (by omega)
      · rw [ext_drop]
        have e := congrArg (List.drop 1) hr
        rw [List.drop_drop] at e
        exact e
      · rw [ext_drop]; omega
      · have h := congrArg List.length (ext_drop x (i + 1))
        have h' : (x.extract (i + 1) x.size).size = (x.data.toList.drop (i + 1)).length := by rw [← h]; simp
        rw [h', List.length_drop]
        simp
        omega
    · have hjc : j = c := by omega
      subst hjc
      have hI : ¬ (j : Int) < (j : Int) := by omega
      obtain ⟨v0, hv0⟩ := hC.any j (by omega)
      have hfz := hC.fz j
      clear hC hcut
      go_wp2_with fail
      go_ret
      have hC := unhide HC
      have hr := hC.rest
      have hx : spl x.data.toList = [x.data.toList] := by
        obtain ⟨h, t, e⟩ := spl_ne x.data.toList
        have hl := spl_len x.data.toList
        rw [e] at hl
        have ht : t = [] := by
          have hk := hC.cnt
          have : t.length = 0 := by rw [List.length_cons] at hl; omega
          exact List.eq_nil_of_length_eq_zero this
        subst ht
        rw [e]
        exact congrArg (fun y => [y]) (spl_one e)
      rw [hx] at hr
      have hget : (spl s.data.toList).getD j [] = x.data.toList := by
        have e := congrArg List.head? hr
        rw [List.head?_drop] at e
        simp only [List.head?_cons] at e
        rw [List.getD, ← e]
        rfl
      refine ⟨by simp, hC.below.setCell (Nat.le_refl _) _, fun k hk => ?_⟩
      by_cases e : k = j
      · subst e
        rw [World.cell?_setCell_same _ _ _ hv0]
        show _ = some (Value.string ⟨((spl s.data.toList).getD k []).toArray⟩)
        rw [hget, ← text_of (x := x) rfl]
      · rw [World.cell?_setCell_other _ _ _ _ (by intro h'; injection h' with _ h' _; omega)]
        exact hC.cells k (by omega)
set_option maxHeartbeats 1000000 in
theorem split_any (s : ByteArray) (hs : s.size < 4611686018427387904) (c : Nat) (hc : s.data.toList.count 58 = c) (hc6 : c < 6) (w : World) :
    Calls Tryz.prog 205 #[.string s, .string ⟨#[58]⟩] w fun e w' => e = .returned (.slice (some ⟨w.heap.size, 0, none⟩) (c + 1) (c + 1)) ∧ Below w.heap.size w w' ∧ ∀ k, k < c + 1 → w'.cell? ⟨w.heap.size, k, none⟩ = some (.string ⟨((spl s.data.toList).getD k []).toArray⟩) := by
  have d := hide (genSplit_any s hs c hc hc6 w)
  go_enter Tryz.func205, Tryz.ntmps205
  go_wp2_with fail
  refine (unhide d).mono ?_
  rintro e w1 ⟨rfl, hb, hcell⟩
  have HB := hide (And.intro hb hcell)
  clear hb hcell
  go_wp2_with fail
  go_ret
  exact ⟨rfl, unhide HB⟩
end Go.Proofs.YtcafhmlpmbkhkaaGreatDoor
