/- The document's Path (16), Parent (11), Root (13), Under (9). -/
import Derived.Test.YthiiommpeaejaaaGreatDoorPthD
namespace Go.Proofs.YthiiommpeaejaaaGreatDoor
open Go Go.ChangeShapes Go.WideShapes Go.ChangeAt Go.RowKit
set_option linter.unusedVariables false
/-- while the document's path is made: what has come, and what is left -/
structure PAt (w : World) (s : ByteArray) (i : Nat) (v : Value) (wr : World) : Prop where
  own : ∃ xs : List (List UInt8), 0 < xs.length ∧ wr.ownsRow w.heap.size 9 1 v xs.length (xs.map fun x => .string ⟨x.toArray⟩) ∧ s.data.toList :: ups s.data.toList = xs ++ upsK s.data.toList i
  below : Below w.heap.size w wr
set_option maxRecDepth 100000 in
set_option maxHeartbeats 4000000 in
theorem rpath_any (s : ByteArray) (hs : s.size < 4611686018427387904) (w : World) : Calls Tryz.prog 16 #[.string s] w fun e w' => PathOut s w e w' := by
  obtain ⟨i0, hi, hz0, hz1, hz2⟩ := info_parts info9
  have HI := hide hi; have HZ0 := hide hz0; have HZ1 := hide hz1; have HZ2 := hide hz2
  clear hi hz0 hz1 hz2
  have d := hide (rgood_any s hs w)
  by_cases hn : nameL s.data.toList = true
  · rw [hn] at d
    have hp : Hid (pathL s.data.toList = s.data.toList :: ups s.data.toList) := by rw [pathL, if_pos hn]; rfl
    have hlen := hide (path_len s.data.toList)
    have hsl : Hid (s.data.toList.length = s.size) := by show _ = _; simp
    have h0 : Hid (PAt w s s.size (.slice (some ⟨w.heap.size, 0, none⟩) 1 1) (w.alloc (.cells #[.string s] 9))) := by
      refine ⟨⟨[s.data.toList], by simp, ?_, by rw [← unhide hsl]; rfl⟩, (Below.refl _ _).alloc (Nat.le_refl _) _⟩
      have h := World.ownsRow_lit (base := w.heap.size) (e := 9) (size := 1) w #[.string s] 1 (Nat.le_refl _) (by unfold maxLen; omega) rfl
      have e : ([s.data.toList].map fun x => Value.string ⟨x.toArray⟩) = [.string s] := by simp
      rw [e]
      exact h
    clear hn
    go_enter Tryz.func16, Tryz.ntmps16
    go_wp2_with fail
    refine (unhide d).mono ?_
    rintro e w1 ⟨rfl, hw⟩
    rw [hw]
    clear hw w1
    go_wp2_with fail
    go_loopw [4, 5] (fun v vi wr => ∃ i : Nat, i ≤ s.size ∧ vi = .int .i64 ((i : Int) - 1) ∧ PAt w s i v wr) (fun _ vi _ => (intOf vi + 1).toNat)
    case atStart => exact ⟨s.size, Nat.le_refl _, by first | rfl | go_num, unhide h0⟩
    case round =>
      obtain ⟨i, hi, rfl, hP⟩ := hrel
      have HP := hide hP
      clear hP h0
      cases i with
      | zero =>
        go_wp2_with fail
        go_ret
        obtain ⟨xs, hx0, hx1, hx2⟩ := (unhide HP).own
        have hx3 : pathL s.data.toList = xs := by rw [unhide hp, hx2, upsK, List.append_nil]
        refine ⟨_, rfl, ?_, ?_, (unhide HP).below⟩
        · rw [hx3, scells_list]
          exact hx1
        · rw [hx3]
          refine ⟨fun e => ?_, fun e => by omega⟩
          obtain ⟨g, c, hv⟩ := own_open hx1 hx0
          rw [hv] at e
          cases e
      | succ i =>
        have hI0 : (0 : Int) ≤ (i : Int) := by omega
        have hI1 : (i : Int) < (s.size : Int) := by omega
        have hI2 : (i : Int) ≤ (s.size : Int) := by omega
        have eI : ((i + 1 : Nat) : Int) - 1 = (i : Int) := by omega
        rw [eI]
        have HE := hide eI
        clear eI
        obtain ⟨xs, hx0, hx1, hx2⟩ := (unhide HP).own
        have hg : Hid (s.data.toList[i]? = some (s[i]'(by omega))) := by
          show _ = _
          rw [Array.getElem?_toList, Array.getElem?_eq_getElem (by have h : s.data.size = s.size := rfl; omega)]
          rfl
        have hxl : xs.length ≤ 6 := by
          have h := unhide hlen
          rw [unhide hp, hx2, List.length_append] at h
          omega
        have OWN := hide hx1
        have HX2 := hide hx2
        have BEL := hide (unhide HP).below
        have hsz := (unhide HP).below.size
        by_cases hc : s[i]'(by omega) = 58
        · have hq : (((s[i]'(by omega)).toNat : Int) == 58) = true := by rw [hc]; rfl
          have HC := hide hc
          have hxl6 : xs.length < 6 := by
            have h := unhide hlen
            rw [unhide hp, hx2, List.length_append, upsK, if_pos (by rw [unhide hg, hc]), List.length_cons] at h
            omega
          clear hc hx1 hx2
          go_wp2_with (at_builtin; refine wpList_append_own _ rfl _ _ 50 rfl w.heap.size 9 i0 (.string ⟨#[]⟩) 1 16 Tryz.underlying50 (unhide HI) (unhide HZ0) (unhide HZ1) (unhide HZ2) rfl (by decide) _ _ _ rfl ((unhide OWN).alloc _) ⟨wr.heap.size, 0, none⟩ 1 1 [.string (s.extract 0 i)] rfl rfl (cell_one_new _ _ _) (one_one _) (by unfold maxLen; omega) (by omega) (by simp; omega) ?_; intro v1 w2 hown1 hgrow1 _; have B2 := hide (Below.grown (bal (unhide BEL) _) hgrow1 (by simp; omega) (fun k hk => ((unhide OWN).lt k hk).1)); have O2 := hide hown1; clear hown1 hgrow1)
          refine ⟨⟨i, by omega, rfl, ⟨xs ++ [s.data.toList.take i], by simp, ?_, ?_⟩, unhide B2⟩, by simp [intOf]⟩
          · have h := unhide O2
            have e : ((xs ++ [s.data.toList.take i]).map fun x => Value.string ⟨x.toArray⟩) = (xs.map fun x => Value.string ⟨x.toArray⟩) ++ [.string (s.extract 0 i)] := by
              rw [List.map_append, text_of (ext_take s i)]
              rfl
            rw [e, List.length_append]
            exact h
          · rw [unhide HX2, upsK, if_pos (by rw [unhide hg, unhide HC]), List.append_assoc]
            rfl
        · have hq : (((s[i]'(by omega)).toNat : Int) == 58) = false := by
            simp only [beq_eq_false_iff_ne, ne_eq]
            intro e
            exact hc (UInt8.toNat_inj.1 (by exact_mod_cast e))
          have HC := hide hc
          clear hc hx1 hx2
          go_wp2_with fail
          refine ⟨⟨i, by omega, rfl, ⟨xs, hx0, unhide OWN, ?_⟩, unhide BEL⟩, by simp [intOf]⟩
          rw [unhide HX2, upsK, if_neg (by rw [unhide hg]; simpa using unhide HC)]
  · have hn' : nameL s.data.toList = false := by simpa using hn
    rw [hn'] at d
    have hp : Hid (pathL s.data.toList = []) := by rw [pathL, if_neg hn]; rfl
    clear hn hn'
    go_enter Tryz.func16, Tryz.ntmps16
    go_wp2_with fail
    refine (unhide d).mono ?_
    rintro e w1 ⟨rfl, hw⟩
    rw [hw]
    clear hw w1
    go_wp2_with fail
    go_ret
    refine ⟨_, rfl, ?_, ?_, Below.refl _ _⟩
    · rw [unhide hp]
      exact World.ownsRow_nil _ _ _ _
    · rw [unhide hp]
      simp
/-- the second of a path -/
theorem parS_eq (l : List UInt8) : parS l = match pathL l with
    | _ :: p :: _ => (⟨p.toArray⟩, true)
    | _ => (⟨#[]⟩, false) := by
  unfold parS pathL
  by_cases hn : nameL l = true
  · rw [if_pos hn, if_pos hn]
    cases ups l <;> rfl
  · rw [if_neg hn, if_neg hn]
set_option maxHeartbeats 2000000 in
theorem rparent_any (s : ByteArray) (hs : s.size < 4611686018427387904) (w : World) : Calls Tryz.prog 11 #[.string s] w fun e w' => e = .returned (.tuple #[.string (parS s.data.toList).1, .bool (parS s.data.toList).2]) ∧ Below w.heap.size w w' := by
  have d := hide (rpath_any s hs w)
  have hp := hide (parS_eq s.data.toList)
  go_enter Tryz.func11, Tryz.ntmps11
  go_wp2_with fail
  refine (unhide d).mono ?_
  rintro e w1 ⟨v, rfl, hrow, hnil, hb⟩
  have HB := hide hb
  obtain ⟨P, hP⟩ : ∃ P, pathL s.data.toList = P := ⟨_, rfl⟩
  rw [hP] at hrow hnil hp
  rcases P with _ | ⟨a, _ | ⟨b, t⟩⟩
  · have hv := hnil.2 rfl
    subst hv
    clear hrow hnil hb
    go_wp2_with fail
    go_ret2
    rw [unhide hp]
    exact ⟨rfl, unhide HB⟩
  · obtain ⟨g, c, rfl⟩ := own_open hrow (by simp)
    clear hrow hnil hb
    simp only [List.length_cons, List.length_nil, Nat.zero_add]
    go_wp2_with fail
    go_ret2
    rw [unhide hp]
    exact ⟨rfl, unhide HB⟩
  · obtain ⟨g, c, rfl⟩ := own_open hrow (by simp)
    have hc : w1.cell? ⟨g, 1, none⟩ = some (.string ⟨b.toArray⟩) := by
      rw [hrow.cellAt 1 (by simp), scells_list]
      rfl
    obtain ⟨L, hL⟩ : ∃ L, (a :: b :: t).length = L := ⟨_, rfl⟩
    have hL2 : 2 ≤ L := by rw [← hL]; simp
    rw [hL]
    have hI : ¬ (L : Int) < 2 := by omega
    have hI2 : (1 : Int) < (L : Int) := by omega
    clear hrow hnil hb hL
    go_wp2_with fail
    go_ret2
    rw [unhide hp]
    exact ⟨rfl, unhide HB⟩
set_option maxHeartbeats 2000000 in
theorem rroot_any (s : ByteArray) (hs : s.size < 4611686018427387904) (w : World) : Calls Tryz.prog 13 #[.string s] w fun e w' => e = .returned (.string (lastS (pathL s.data.toList))) ∧ Below w.heap.size w w' := by
  have d := hide (rpath_any s hs w)
  obtain ⟨P, hP⟩ : ∃ P, pathL s.data.toList = P := ⟨_, rfl⟩
  rw [hP]
  go_enter Tryz.func13, Tryz.ntmps13
  go_wp2_with fail
  refine (unhide d).mono ?_
  rintro e w1 ⟨v, rfl, hrow, hnil, hb⟩
  have HB := hide hb
  rw [hP] at hrow hnil
  by_cases h0 : P = []
  · subst h0
    have hv := hnil.2 rfl
    subst hv
    clear hrow hnil hb
    go_wp2_with fail
    go_ret
    exact ⟨rfl, unhide HB⟩
  · have hl : 0 < P.length := List.length_pos_iff.2 h0
    obtain ⟨g, c, rfl⟩ := own_open hrow hl
    obtain ⟨L, hL⟩ : ∃ L, P.length = L + 1 := ⟨P.length - 1, by omega⟩
    have hc : w1.cell? ⟨g, L, none⟩ = some (.string (lastS P)) := by
      rw [hrow.cellAt L (by omega), scells_list, List.getElem?_map]
      have e : P[L]? = some (P.getLast h0) := by
        rw [List.getLast_eq_getElem, ← List.getElem?_eq_getElem]
        congr 1
        omega
      rw [e, lastS, List.getLastD_eq_getLast?, List.getLast?_eq_some_getLast h0]
      rfl
    have hI : ((L : Int) + 1 == 0) = false := by simp; omega
    have hIn : ¬ (L : Int) + 1 = 0 := by omega
    have hI1 : (L : Int) + 1 - 1 = (L : Int) := by omega
    have hI0 : (0 : Int) ≤ (L : Int) := by omega
    have hL7 : L < 100 := by have h := path_len s.data.toList; rw [hP] at h; omega
    have hI2 : (L : Int) < (L : Int) + 1 := by omega
    rw [hL]
    clear hrow hnil hb hl hL h0 hP
    go_wp2_with fail
    go_ret
    exact ⟨rfl, unhide HB⟩
set_option maxHeartbeats 2000000 in
theorem runder_any (s t : ByteArray) (hs : s.size < 4611686018427387904) (w : World) : Calls Tryz.prog 9 #[.string s, .string t] w fun e w' => e = .returned (.bool (undS s t)) ∧ Below w.heap.size w w' := by
  have d := hide (rpath_any s hs w)
  have hlen := hide (path_len s.data.toList)
  have hu := hide (show undS s t = decide (t.data.toList ∈ pathL s.data.toList) from rfl)
  obtain ⟨P, hP⟩ : ∃ P, pathL s.data.toList = P := ⟨_, rfl⟩
  go_enter Tryz.func9, Tryz.ntmps9
  go_wp2_with fail
  refine (unhide d).mono ?_
  rintro e w1 ⟨v, rfl, hrow, hnil, hb⟩
  have HB := hide hb
  rw [hP] at hrow hnil hlen hu
  have hv : ∃ pa cap, v = .slice pa P.length cap ∧ (0 < P.length → ∃ g, pa = some ⟨g, 0, none⟩ ∧ ∀ k (hk : k < P.length), w1.cell? ⟨g, k, none⟩ = some (.string ⟨(P[k]).toArray⟩)) := by
    by_cases h0 : P.length = 0
    · exact ⟨none, 0, by rw [hnil.2 h0, h0], fun h => by omega⟩
    · obtain ⟨g, c, rfl⟩ := own_open hrow (by omega)
      refine ⟨_, c, rfl, fun _ => ⟨g, rfl, fun k hk => ?_⟩⟩
      rw [hrow.cellAt k (by omega), scells_list, List.getElem?_map, List.getElem?_eq_getElem hk]
      rfl
  obtain ⟨pa, cap, rfl, hpa⟩ := hv
  have HPA := hide hpa
  clear hrow hnil hb hpa hP
  have hl6 := unhide hlen
  go_wp2_with fail
  go_loopw [6] (fun i wr => ∃ k : Nat, k ≤ P.length ∧ i = .int .i64 (k : Int) ∧ (∀ j (hj : j < P.length), j < k → P[j] ≠ t.data.toList) ∧ wr = w1) (fun i _ => P.length - (intOf i).toNat)
  case atStart => exact ⟨0, by omega, rfl, fun j hj h => by omega, rfl⟩
  case round =>
    obtain ⟨k, hk, rfl, hd, rfl⟩ := hrel
    have HD := hide hd
    clear hd
    by_cases hlt : k < P.length
    · obtain ⟨g, rfl, hcells⟩ := unhide HPA (by omega)
      have hI : (k : Int) < (P.length : Int) := by omega
      have hI0 : (0 : Int) ≤ (k : Int) := by omega
      have HK := hide hlt
      obtain ⟨X, hX, hc⟩ : ∃ X, X = (⟨(P[k]'hlt).toArray⟩ : ByteArray) ∧ wr.cell? ⟨g, k, none⟩ = some (.string X) := ⟨_, rfl, hcells k hlt⟩
      have hXl : X.toList = P[k] := by
        rw [Lib.toList_data, hX]
        rfl
      by_cases hx : P[k] = t.data.toList
      · have hq : (X.toList == t.toList) = true := by rw [hXl, Lib.toList_data, hx]; simp
        have HX := hide hx
        clear hcells hx hX hXl
        go_wp2_with fail
        go_ret
        refine ⟨?_, unhide HB⟩
        rw [unhide hu, decide_eq_true (by rw [← unhide HX]; exact List.getElem_mem _)]
        rfl
      · have hq : (X.toList == t.toList) = false := by rw [hXl, Lib.toList_data]; simpa using hx
        have HX := hide hx
        clear hcells hx hX hXl
        go_wp2_with fail
        refine ⟨⟨k + 1, by omega, by go_num, fun j hj hjk => ?_, trivial⟩, by simp [intOf]; omega⟩
        by_cases e : j = k
        · subst e; exact unhide HX
        · exact unhide HD j hj (by omega)
    · have hkl : k = P.length := by omega
      have hI : ¬ (k : Int) < (P.length : Int) := by omega
      clear hkl
      go_wp2_with fail
      go_ret
      refine ⟨?_, unhide HB⟩
      have hno : ¬ t.data.toList ∈ P := fun hm => by
        obtain ⟨j, hj, e⟩ := List.getElem_of_mem hm
        exact unhide HD j hj (by omega) e
      rw [unhide hu, decide_eq_false hno]
      rfl
end Go.Proofs.YthiiommpeaejaaaGreatDoor
