import Derived.Test.YtcafhmlpmbkhkaaGreatDoorW39
import Derived.Test.YtcafhmlpmbkhkaaGreatDoorW18
/- The program's Statement (21), of a good account: up to the sums. -/
namespace Go.Proofs.YtcafhmlpmbkhkaaGreatDoor
open Go Go.Shelf Go.ChangeShapes Go.WideShapes Go.ChangeAt Go.RowKit Go.Maps
set_option linter.unusedVariables false
set_option linter.unusedSimpArgs false
def ldE (x : Value) : Sem Value := Instr.loadAt 48 x
theorem ldE_is (x : Value) : Instr.loadAt 48 x = ldE x := rfl
theorem sizE : (Tryz.prog.info? 48).map (·.size) = some 5 := by kernel_rfl
theorem run_ldE {w : World} {b : Nat} {a0 a1 a2 a3 a4 : Int} (h : w.heap[b]? = some (ageO a0 a1 a2 a3 a4)) : (ldE (.pointer (some ⟨b, 0, none⟩))).run Tryz.prog w = .ok (agV a0 a1 a2 a3 a4) w :=
  run_loadAt_mid (P := Tryz.prog) w b 0 48 [.int .i64 a0, .int .i64 a1, .int .i64 a2, .int .i64 a3, .int .i64 a4] _ (fun j u hu => by rw [Nat.zero_add, cell_at h]; simpa using hu) Tryz.underlying48 (by kernel_rfl) sizE
def ldP (x : Value) : Sem Value := Instr.loadAt 130 x
theorem ldP_is (x : Value) : Instr.loadAt 130 x = ldP x := rfl
theorem run_ldP {w : World} {b d g : Nat} (h : w.heap[b]? = some (pO d g)) : (ldP (.pointer (some ⟨b, 0, none⟩))).run Tryz.prog w = .ok (pV d g) w :=
  run_loadAt_mid (P := Tryz.prog) w b 0 130 [.int .i64 (d : Int), .pointer (some ⟨g, 0, none⟩)] _ (fun j u hu => by rw [Nat.zero_add, cell_at h]; simpa [pO] using hu) Tryz.underlying130 rfl sz130
/-- the columns of a statement's grid -/
noncomputable def colsS (d : Nat) (t : Int) (b : Nat) : List (Value × (Qm → Tx)) := [(.func (.func 85) #[] #[], fun x => x.key.data.toList), (.func (.func 86) #[] #[], fun x => dtx x.day), (.func (.func 87) #[] #[], fun x => dtx x.due), (.func (.func 88) #[.agg #[.int .i64 (d : Int)]] #[], fun x => txt x.amt d), (.func (.func 89) #[] #[.pointer (some ⟨b, 0, none⟩)], fun x => ovd t x.due)]
theorem colsS_ok {d : Nat} (hd : d ≤ 6) {t : Int} (ht : isD t) {b : Nat} {G : World → Prop} (hG : ∀ W, G W → Kg.Pw W ∧ Dy.Mon W ∧ W.cell? ⟨b, 0, none⟩ = some (.int .i64 t)) : ∀ q ∈ colsS d t b, FnOK cvQ QmFine G q.1 q.2 := fun q hq => by
  simp only [colsS, List.mem_cons, List.not_mem_nil, or_false] at hq
  rcases hq with rfl | rfl | rfl | rfl | rfl
  · exact ⟨85, eg85, .inl ⟨rfl, fun x W _ _ => keyOf_any x W⟩⟩
  · exact ⟨86, eg86, .inl ⟨rfl, fun x W hx hW => dateText_any x hx.day W (hG W hW).2.1 (hG W hW).1⟩⟩
  · exact ⟨87, eg87, .inl ⟨rfl, fun x W hx hW => dueText_any x hx.due W (hG W hW).2.1 (hG W hW).1⟩⟩
  · exact ⟨88, eg88, .inr (.inl ⟨_, rfl, fun x W hx hW => open_any x d ⟨by have := hx.amt.1; omega, hx.amt.2⟩ hd W (hG W hW).1⟩)⟩
  · exact ⟨89, eg89, .inr (.inr ⟨_, rfl, fun x W hx hW => over_clo x b t ht hx.due W (hG W hW).1 (hG W hW).2.2⟩)⟩
theorem foldl_min_le : ∀ (l : List Int) (a : Int), l.foldl min a ≤ a ∧ ∀ z ∈ l, l.foldl min a ≤ z
  | [], a => ⟨Int.le_refl _, fun z hz => by cases hz⟩
  | x :: l, a => by
    obtain ⟨h1, h2⟩ := foldl_min_le l (min a x)
    simp only [List.foldl_cons]
    refine ⟨by omega, fun z hz => ?_⟩
    rcases List.mem_cons.1 hz with rfl | hz
    · omega
    · exact h2 z hz
theorem min_le (z : Int) (l : List Int) (hz : z ∈ l) : Lib.minOf l ≤ z := (foldl_min_le l _).2 z hz
theorem grid_len (right : Nat → Bool) {R : List (List Tx)} {M N : Nat} (hN : ∀ r ∈ R, r.length ≤ N) (hM : ∀ r ∈ R, ∀ x ∈ r, x.length ≤ M) : (gridT right R).length ≤ R.length * (N * (M + 2) + 1) := by
  unfold gridT
  refine lines_len (fun c => wid_le fun r hr => ?_) hN R (fun r hr => hr)
  rw [List.getD_eq_getElem?_getD]
  rcases Nat.lt_or_ge c r.length with h | h
  · rw [List.getElem?_eq_getElem h]
    exact hM r hr _ (List.getElem_mem h)
  · rw [List.getElem?_eq_none h]
    exact Nat.zero_le _
attribute [local go_sem ↓] ldE_is ldP_is
set_option maxRecDepth 100000 in
set_option maxHeartbeats 16000000 in
theorem statement_good {w : World} (hP : Kg.Pw w) (hM : Dy.Mon w) {p : Option Addr} {n c : Nat} {X : List Qm} (hX : X.length = n) (hL : Lies kQ w p X) (hok : ∀ x ∈ X, QmOk x) (hn : n ≤ 1048576) (acc : ByteArray) (hacc : acc.size < 4611686018427387904) (a0 a1 a2 a3 a4 : Int)
    (hA : ∀ z ∈ [a0, a1, a2, a3, a4], fits64 z) (t : Int) (d : Nat) (hd' : d ≤ 6) (htt : isDb t = true) (hnm : nameL acc.data.toList = true) :
    Calls Tryz.prog 21 #[.string acc, .slice p n c, agV a0 a1 a2 a3 a4, .int .i64 t, .int .i64 (d : Int)] w (TriOut w (ansS (d : Int) acc X [a0, a1, a2, a3, a4] t)) := by
  have htD := (isDb_iff t).1 htt
  obtain ⟨w1, hw1⟩ : ∃ W, W = w.alloc (.cells #[.string acc] 9) := ⟨_, rfl⟩
  obtain ⟨w2, hw2⟩ : ∃ W, W = w1.alloc (ageO a0 a1 a2 a3 a4) := ⟨_, rfl⟩
  obtain ⟨w3, hw3⟩ : ∃ W, W = w2.alloc (.cells #[.int .i64 t] 3) := ⟨_, rfl⟩
  have b03 : Below w.heap.size w w3 := by rw [hw3, hw2, hw1]; exact bal (bal (bal (Below.refl _ _) _) _) _
  have hh1 : w1.heap[w.heap.size]? = some (.cells #[.string acc] 9) := by rw [hw1]; exact heap_new _ _
  have hh2 : w2.heap[w1.heap.size]? = some (ageO a0 a1 a2 a3 a4) := by rw [hw2]; exact heap_new _ _
  have hh3 : w3.heap[w2.heap.size]? = some (.cells #[.int .i64 t] 3) := by rw [hw3]; exact heap_new _ _
  have b13 : Below w1.heap.size w1 w3 := by rw [hw3, hw2]; exact bal (bal (Below.refl _ _) _) _
  have b23 : Below w2.heap.size w2 w3 := by rw [hw3]; exact bal (Below.refl _ _) _
  have hh31 : w3.heap[w.heap.size]? = some (.cells #[.string acc] 9) := (b13.block _ (Array.getElem?_eq_some_iff.1 hh1).1).trans hh1
  have hh32 : w3.heap[w1.heap.size]? = some (ageO a0 a1 a2 a3 a4) := (b23.block _ (Array.getElem?_eq_some_iff.1 hh2).1).trans hh2
  have l0 : w3.cell? ⟨w.heap.size, 0, none⟩ = some (.string acc) := by rw [cell_at hh31]; rfl
  have l2 : w3.cell? ⟨w2.heap.size, 0, none⟩ = some (.int .i64 t) := by rw [cell_at hh3]; rfl
  have HB1 := hide b03
  have HC0 : Hid (∀ W, Below w3.heap.size w3 W → W.heap[w.heap.size]? = some (.cells #[.string acc] 9)) := fun W hb => (hb.block _ (Array.getElem?_eq_some_iff.1 hh31).1).trans hh31
  have HC1 : Hid (∀ W, Below w3.heap.size w3 W → W.heap[w1.heap.size]? = some (ageO a0 a1 a2 a3 a4)) := fun W hb => (hb.block _ (Array.getElem?_eq_some_iff.1 hh32).1).trans hh32
  have HC2 : Hid (∀ W, Below w3.heap.size w3 W → W.heap[w2.heap.size]? = some (.cells #[.int .i64 t] 3)) := fun W hb => (hb.block _ (Array.getElem?_eq_some_iff.1 hh3).1).trans hh3
  have hw1' := hw1.symm; have hw3' := hw3.symm
  have hw2' : w1.alloc (.cells #[.int .i64 a0, .int .i64 a1, .int .i64 a2, .int .i64 a3, .int .i64 a4] 48) = w2 := hw2.symm
  have D := hide (digits_yes (d : Int) w3 (by omega) (by omega))
  have DD := hide (isDay_any t w3)
  have DG := hide (good_any acc hacc w3)
  rw [htt] at DD
  rw [hnm] at DG
  have HX := hide hX; have HL := hide (hL.below b03); have HPW := hide (hP.below b03); have HMO := hide (hM.below b03)
  obtain ⟨F, hF⟩ : ∃ F, F = fstQ (faultQ acc) X := ⟨_, rfl⟩
  have DF : Hid (∀ W, Below w3.heap.size w3 W → Calls Tryz.prog 77 #[.slice p n c, .func (.func 78) #[] #[.pointer (some ⟨w.heap.size, 0, none⟩)]] W fun e w' => e = .returned (.int .i64 F) ∧ Below W.heap.size W w') := fun W hW => by
    rw [hF]
    exact fltQ hX ((unhide HL).below hW) eg78 (.inr ⟨_, rfl⟩) hok (fun x W' hx hb => fault_clo x acc w.heap.size hx.key W' (by
      rw [cell_at (unhide HC0 W' (hW.trans (hb.mono hW.size)))]
      rfl)) (by omega)
  have HNB : Hid (¬ ((d : Int) < 0 ∨ 6 < (d : Int) ∨ isDb t = false)) := by show ¬ _; rw [htt]; simp; omega
  have HNM : Hid (¬ nameL acc.data.toList = false) := by show ¬ _; rw [hnm]; simp
  have HAF := hide hA
  have HOK := hide hok
  have HN := hide hn
  unfold agV
  by_cases hF0 : F = 0
  · subst hF0
    have HFI := hide (qfine_all hok hF.symm)
    have HF := hide hF
    obtain ⟨m, hm⟩ : ∃ m, m = Lib.minOf [a0, a1, a2, a3, a4] := ⟨_, rfl⟩
    have DM : Hid (∀ W, Below w3.heap.size w3 W → Calls Tryz.prog 80 #[.slice (some ⟨w1.heap.size, 0, none⟩) 5 5] W fun e w' => e = .returned (.int .i64 m) ∧ w' = W) := fun W hW => by
      have := Tryz.slices_Min_int w1.heap.size 0 5 5 [a0, a1, a2, a3, a4] W (by decide) (Nat.le_refl 5) (by decide) (fun j hj => age_cell (unhide HC1 W hW) j hj)
      rw [hm]
      exact this
    have DS : Hid (∀ W, Below w3.heap.size w3 W → Calls Tryz.prog 83 #[.slice (some ⟨w1.heap.size, 0, none⟩) 5 5] W fun e w' => e = .returned (.tuple #[.int .i64 (sumL [a0, a1, a2, a3, a4]).1, .int .i64 (sumL [a0, a1, a2, a3, a4]).2]) ∧ w' = W) := fun W hW =>
      msum_any (fun k => [a0, a1, a2, a3, a4].getD k 0) w1.heap.size 0 5 5 (by decide) (fun k hk => by
        have h5 : k < [a0, a1, a2, a3, a4].length := hk
        show -9223372036854775808 ≤ [a0, a1, a2, a3, a4].getD k 0 ∧ _
        rw [List.getD_eq_getElem?_getD, List.getElem?_eq_getElem h5]
        exact unhide HAF _ (List.getElem_mem h5)) W (fun k hk => age_cell (unhide HC1 W hW) k hk)
    have DT : Hid (∀ W, Below w3.heap.size w3 W → Calls Tryz.prog 81 #[.slice p n c, .func (.func 82) #[] #[]] W (TotOut W (amtL X))) := fun W hb =>
      totQ (X := X) (f := fun x => x.amt) (ok := QmFine) (unhide HX) ((unhide HL).below hb) (unhide HFI) ⟨82, eg82, rfl, fun x W _ => openOf_any x W⟩ (fun x hx => ⟨by have := (unhide HFI x hx).amt.1; omega, (unhide HFI x hx).amt.2⟩) (by have := unhide HN; omega)
    clear hw1 hw2 hw3 b03 b13 b23 hh1 hh2 hh3 hh31 hh32 hX hL hP hM hok hF hA hacc hn
    by_cases hm0 : m < 0
    · have HE : Hid (ansS (d : Int) acc X [a0, a1, a2, a3, a4] t = ([], 10)) := by
        have e : errS (d : Int) acc X [a0, a1, a2, a3, a4] t = 10 := by
          unfold errS
          rw [if_neg (unhide HNB), if_neg (unhide HNM), if_neg (by rw [← unhide HF]; simp), if_pos (by rw [← hm]; exact hm0)]
        show _ = _
        unfold ansS
        rw [e, if_neg (by decide)]
      clear hm
      go_enter Tryz.func21, Tryz.ntmps21
      go_wp2_with first | (go_at_call 37; refine (unhide D).mono ?_; rintro e wz ⟨rfl, hwz⟩; rw [hwz]; clear hwz wz) | (go_at_call 75; refine (unhide DD).mono ?_; rintro e wz ⟨rfl, hwz⟩; rw [hwz]; clear hwz wz) | (go_at_call 76; refine (unhide DG).mono ?_; rintro e w4 ⟨rfl, hb4⟩; have HB4 := hide hb4; have df := hide (unhide DF w4 hb4); clear hb4) | (go_at_call 77; refine (unhide df).mono ?_; rintro e w5 ⟨rfl, hb5⟩; have HB5 := hide ((unhide HB4).trans (hb5.mono (unhide HB4).size)); have dm := hide (unhide DM w5 (unhide HB5)); clear hb5) | (go_at_call 80; refine (unhide dm).mono ?_; rintro e wz ⟨rfl, hwz⟩; rw [hwz]; clear hwz wz)
      go_ret2
      exact ⟨by rw [unhide HE]; rfl, (unhide HB1).trans ((unhide HB5).mono (unhide HB1).size)⟩
    · obtain ⟨a, ha⟩ : ∃ a, a = (sumL (amtL X)).1 := ⟨_, rfl⟩
      obtain ⟨ea, hea⟩ : ∃ a, a = (sumL (amtL X)).2 := ⟨_, rfl⟩
      obtain ⟨b, hb⟩ : ∃ a, a = (sumL [a0, a1, a2, a3, a4]).1 := ⟨_, rfl⟩
      obtain ⟨eb, heb⟩ : ∃ a, a = (sumL [a0, a1, a2, a3, a4]).2 := ⟨_, rfl⟩
      unfold TotOut at DT
      rw [← ha, ← hea] at DT
      rw [← hb, ← heb] at DS
      have HA := hide ha; have HEA := hide hea; have HBB := hide hb; have HEB := hide heb
      have HM0 : Hid (¬ Lib.minOf [a0, a1, a2, a3, a4] < 0) := by show ¬ _; rw [← hm]; exact hm0
      clear ha hea hb heb hm
      go_enter Tryz.func21, Tryz.ntmps21
      go_wp2_with first | (go_at_call 37; refine (unhide D).mono ?_; rintro e wz ⟨rfl, hwz⟩; rw [hwz]; clear hwz wz) | (go_at_call 75; refine (unhide DD).mono ?_; rintro e wz ⟨rfl, hwz⟩; rw [hwz]; clear hwz wz) | (go_at_call 76; refine (unhide DG).mono ?_; rintro e w4 ⟨rfl, hb4⟩; have HB4 := hide hb4; have df := hide (unhide DF w4 hb4); clear hb4) | (go_at_call 77; refine (unhide df).mono ?_; rintro e w5 ⟨rfl, hb5⟩; have HB5 := hide ((unhide HB4).trans (hb5.mono (unhide HB4).size)); have dm := hide (unhide DM w5 (unhide HB5)); have dt := hide (unhide DT w5 (unhide HB5)); clear hb5) | (go_at_call 80; refine (unhide dm).mono ?_; rintro e wz ⟨rfl, hwz⟩; rw [hwz]; clear hwz wz) | (go_at_call 81; refine (unhide dt).mono ?_; rintro e w6 ⟨rfl, hb6⟩; have HB6 := hide ((unhide HB5).trans (hb6.mono (unhide HB5).size)); have ds := hide (unhide DS w6 (unhide HB6)); clear hb6) | (go_at_call 83; refine (unhide ds).mono ?_; rintro e wz ⟨rfl, hwz⟩; rw [hwz]; clear hwz wz)
      clear DM DS DT DF D DD DG df dm dt ds l0 l2 hw1' hw2' hw3' HB4 HB5
      obtain ⟨w7, hw7⟩ : ∃ W, W = w6.alloc (.cells #[.int .i64 ea, .int .i64 eb] 24) := ⟨_, rfl⟩
      have hh7 : w7.heap[w6.heap.size]? = some (.cells #[.int .i64 ea, .int .i64 eb] 24) := by rw [hw7]; exact heap_new _ _
      have D4 := hide (or_two ea eb w6.heap.size w7 (by rw [cell_at hh7]; rfl) (by rw [cell_at hh7]; rfl))
      have HB7 : Hid (Below w3.heap.size w3 w7) := by rw [hw7]; exact (unhide HB6).trans ((bal (Below.refl _ _) _).mono (unhide HB6).size)
      obtain ⟨oe, hoe⟩ : ∃ o, o = orE ea eb := ⟨_, rfl⟩
      rw [← hoe] at D4
      have HOE := hide hoe
      have hw7' := hw7.symm
      clear hh7 hw7 hoe
      rw [hw7']
      refine (unhide D4).mono ?_
      rintro e wz ⟨rfl, hwz⟩
      rw [hwz]
      clear hwz wz hw7' D4
      by_cases ho : oe = 0
      · subst ho
        have heo := unhide HOE
        rw [unhide HEA, unhide HEB] at heo
        have hz1 : (sumL (amtL X)).2 = 0 ∧ (sumL [a0, a1, a2, a3, a4]).2 = 0 := by
          unfold orE at heo
          by_cases h0 : (sumL (amtL X)).2 = 0
          · rw [if_pos h0] at heo; exact ⟨h0, heo.symm⟩
          · rw [if_neg h0] at heo; exact absurd heo.symm h0
        have haA : isA a := by rw [unhide HA]; exact sumL_fits hz1.1
        have hbA : isA b := by rw [unhide HBB]; exact sumL_fits hz1.2
        have hages : ∀ z ∈ [a0, a1, a2, a3, a4], isA z := fun z hz => by
          have h1 := (unhide HAF z hz)
          have h2 := min_le z [a0, a1, a2, a3, a4] hz
          have h3 := unhide HM0
          obtain ⟨h4, h5⟩ := h1
          constructor <;> omega
        have hEE : errS (d : Int) acc X [a0, a1, a2, a3, a4] t = 0 := by
          unfold errS
          rw [if_neg (unhide HNB), if_neg (unhide HNM), if_neg (by rw [← unhide HF]; simp), if_neg (by have := unhide HM0; omega), ← heo]
        have HANS : Hid (ansS (d : Int) acc X [a0, a1, a2, a3, a4] t = (staT d acc X [a0, a1, a2, a3, a4] t, 0)) := by
          show _ = _
          unfold ansS
          rw [if_pos hEE]
          rfl
        obtain ⟨w8, hw8⟩ : ∃ W, W = w7.alloc (.cells #[.int .i64 (d : Int)] 83) := ⟨_, rfl⟩
        obtain ⟨w9, hw9⟩ : ∃ W, W = w8.alloc (.cells #[.int .i64 0, .int .i64 0, .int .i64 0, .int .i64 1, .int .i64 1] 86) := ⟨_, rfl⟩
        have b78 : Below w7.heap.size w7 w8 := by rw [hw8]; exact bal (Below.refl _ _) _
        have b89 : Below w8.heap.size w8 w9 := by rw [hw9]; exact bal (Below.refl _ _) _
        have b79 : Below w7.heap.size w7 w9 := b78.trans (b89.mono b78.size)
        have b39 : Below w3.heap.size w3 w9 := (unhide HB7).trans (b79.mono (unhide HB7).size)
        have hh8 : w8.heap[w7.heap.size]? = some (.cells #[.int .i64 (d : Int)] 83) := by rw [hw8]; exact heap_new _ _
        have hh98 : w9.heap[w7.heap.size]? = some (.cells #[.int .i64 (d : Int)] 83) := (b89.block _ (Array.getElem?_eq_some_iff.1 hh8).1).trans hh8
        have hs9 : w9.heap[w8.heap.size]? = some (.cells #[.int .i64 0, .int .i64 0, .int .i64 0, .int .i64 1, .int .i64 1] 86) := by rw [hw9]; exact heap_new _ _
        have HTX : Hid (∀ W, Below w9.heap.size w9 W → W.cell? ⟨w7.heap.size, 0, none⟩ = some (.int .i64 (d : Int))) := fun W hb => by
          rw [cell_at ((hb.block _ (Array.getElem?_eq_some_iff.1 hh98).1).trans hh98)]
          rfl
        have HB9 := hide b39
        have D5 : Hid (Calls Tryz.prog 44 #[.slice (some ⟨w8.heap.size, 0, none⟩) 5 5] w9 (NewOut w9 [0, 0, 0, 1, 1])) := by
          refine newGrid_any (S := [0, 0, 0, 1, 1]) (W := w9) ⟨(fun e => by cases e), fun k hk => ?_⟩ (fun q hq => ?_)
          · refine ⟨w8.heap.size, 0, rfl, (Array.getElem?_eq_some_iff.1 hs9).1, fun j u hu => ?_⟩
            have hj : j = 0 := by
              have := (List.getElem?_eq_some_iff.1 hu).1
              simp [kG] at this
              exact this
            subst hj
            have hk5 : k = 0 ∨ k = 1 ∨ k = 2 ∨ k = 3 ∨ k = 4 := by simp at hk; omega
            rw [cell_at hs9]
            rcases hk5 with rfl | rfl | rfl | rfl | rfl <;> simpa [kG] using hu
          · cases hq
            exact ⟨_, (0, 0), hs9⟩
        have hw8' := hw8.symm; have hw9' := hw9.symm
        have haA' := hide haA; have hbA' := hide hbA; have HAG := hide hages
        clear hEE heo hz1 HOE hw8 hw9 b78 b89 b79 b39 hh8 hh98 hs9 haA hbA hages
        go_wp2_with fail
        refine (unhide D5).mono ?_
        rintro e w10 ⟨gd, rfl, hG10, hb10⟩
        clear hw8' hw9' D5
        obtain ⟨w11, hw11⟩ : ∃ W, W = w10.alloc (litB hdS) := ⟨_, rfl⟩
        have b1011 : Below w10.heap.size w10 w11 := by rw [hw11]; exact bal (Below.refl _ _) _
        have D6 : Hid (Calls Tryz.prog 45 #[.pointer (some ⟨gd, 0, none⟩), .slice (some ⟨w10.heap.size, 0, none⟩) 5 5] w11 (AddOut w9.heap.size w11 gd [0, 0, 0, 1, 1] [] hdS)) := by
          refine add_any (hG10.below b1011) ?_ (by simp)
          rw [hw11]
          exact litL w10 hdS
        have HB11 : Hid (Below w9.heap.size w9 w11) := hb10.trans (b1011.mono hb10.size)
        have hw11' : w10.alloc (.cells #[.string ⟨#[75, 101, 121]⟩, .string ⟨#[68, 97, 116, 101]⟩, .string ⟨#[68, 117, 101]⟩, .string ⟨#[79, 112, 101, 110]⟩, .string ⟨#[68, 97, 121, 115]⟩] 9) = w11 := hw11.symm
        clear hw11 b1011 hb10 hG10
        go_wp2_with fail
        refine (unhide D6).mono ?_
        rintro e w12 ⟨⟨v12, rfl⟩, hG12, hd12⟩
        clear hw11' D6
        have hb12 : Below w9.heap.size w9 w12 := (unhide HB11).trans hd12.bel
        have l12 := unhide HTX w12 hb12
        obtain ⟨w13, hw13⟩ : ∃ W, W = w12.alloc (.cells #[.func (.func 85) #[] #[], .func (.func 86) #[] #[], .func (.func 87) #[] #[], .func (.func 88) #[.agg #[.int .i64 (d : Int)]] #[], .func (.func 89) #[] #[.pointer (some ⟨w2.heap.size, 0, none⟩)]] 127) := ⟨_, rfl⟩
        have b1213 : Below w12.heap.size w12 w13 := by rw [hw13]; exact bal (Below.refl _ _) _
        have hb13 : Below w9.heap.size w9 w13 := hb12.trans (b1213.mono hb12.size)
        have hh13 : w13.heap[w12.heap.size]? = some (.cells #[.func (.func 85) #[] #[], .func (.func 86) #[] #[], .func (.func 87) #[] #[], .func (.func 88) #[.agg #[.int .i64 (d : Int)]] #[], .func (.func 89) #[] #[.pointer (some ⟨w2.heap.size, 0, none⟩)]] 127) := by rw [hw13]; exact heap_new _ _
        have D7 : Hid (Calls Tryz.prog 84 #[.pointer (some ⟨gd, 0, none⟩), .slice p n c, .slice (some ⟨w12.heap.size, 0, none⟩) 5 5] w13 (SetOut w9.heap.size w13 gd [0, 0, 0, 1, 1] [hdS] (colsS d t w2.heap.size) X)) := by
          refine setQ (hG12.below b1213) (unhide HX) (fun W hW => (unhide HL).below ((unhide HB9).trans ((hb13.trans hW.bel).mono (unhide HB9).size))) (FS := colsS d t w2.heap.size) rfl (fun W hW j q hq => ?_) (unhide HFI) (colsS_ok hd' htD (fun W hW => ?_)) (by have := unhide HN; simp; omega) (by decide)
          · have hc := (hW.kept _ _ _ _ hh13 (by decide) (by decide)).trans hh13
            rw [Nat.zero_add, cell_at hc]
            have hj5 : j = 0 ∨ j = 1 ∨ j = 2 ∨ j = 3 ∨ j = 4 := by
              have := (List.getElem?_eq_some_iff.1 hq).1
              simp [colsS] at this
              omega
            rcases hj5 with rfl | rfl | rfl | rfl | rfl <;> (simp [colsS] at hq; subst hq; rfl)
          · have hb3W := (unhide HB9).trans ((hb13.trans hW.bel).mono (unhide HB9).size)
            exact ⟨(unhide HPW).below hb3W, (unhide HMO).below hb3W, by rw [cell_at (unhide HC2 W hb3W)]; rfl⟩
        have hw13' := hw13.symm
        have HB13 := hide hb13
        clear hw13 b1213 hb13 hh13 hG12 hd12 hb12
        go_wp2_with fail
        refine (unhide D7).mono ?_
        rintro e w14 ⟨⟨v14, rfl⟩, hG14, hd14⟩
        clear hw13' D7 l12
        have hb14 : Below w9.heap.size w9 w14 := (unhide HB13).trans hd14.bel
        have l14 := unhide HTX w14 hb14
        have D8 := hide (amount_any a d (unhide haA') hd' w14 ((unhide HPW).below ((unhide HB9).trans (hb14.mono (unhide HB9).size))))
        have HB14 := hide hb14; have HG14 := hide hG14
        clear hb14 hG14 hd14 HB13
        go_wp2_with fail
        refine (unhide D8).mono ?_
        rintro e w15 ⟨rfl, hb15⟩
        clear D8 l14
        obtain ⟨w16, hw16⟩ : ∃ W, W = w15.alloc (litB (sumS d a)) := ⟨_, rfl⟩
        have b1516 : Below w15.heap.size w15 w16 := by rw [hw16]; exact bal (Below.refl _ _) _
        have b1416 : Below w14.heap.size w14 w16 := hb15.trans (b1516.mono hb15.size)
        have D9 : Hid (Calls Tryz.prog 45 #[.pointer (some ⟨gd, 0, none⟩), .slice (some ⟨w15.heap.size, 0, none⟩) 4 4] w16 (AddOut w9.heap.size w16 gd [0, 0, 0, 1, 1] ([hdS] ++ X.map (rowF (colsS d t w2.heap.size))) (sumS d a))) := by
          refine add_any ((unhide HG14).below b1416) ?_ (by have := unhide HX; have := unhide HN; simp; omega)
          rw [hw16]
          exact litL w15 (sumS d a)
        have HB16 : Hid (Below w9.heap.size w9 w16) := (unhide HB14).trans (b1416.mono (unhide HB14).size)
        have hw16' : w15.alloc (.cells #[.string ⟨#[83, 117, 109]⟩, .string ⟨#[]⟩, .string ⟨#[]⟩, .string (txB (txt a d))] 9) = w16 := hw16.symm
        clear hw16 b1516 b1416 hb15 HB14 HG14
        go_wp2_with fail
        refine (unhide D9).mono ?_
        rintro e w17 ⟨⟨v17, rfl⟩, hG17, hd17⟩
        clear hw16' D9
        have HB17 : Hid (Below w9.heap.size w9 w17) := (unhide HB16).trans hd17.bel
        have HG17 : Hid (Gr w9.heap.size w17 gd [0, 0, 0, 1, 1] (rowsS d t X)) := by
          have e : [hdS] ++ X.map (rowF (colsS d t w2.heap.size)) ++ [sumS d a] = rowsS d t X := by
            unfold rowsS
            rw [unhide HA]
            rfl
          rw [← e]
          exact hG17
        clear hG17 hd17 HB16 HB11
        have D10 := hide (newPaired_any d w17)
        go_wp2_with fail
        refine (unhide D10).mono ?_
        rintro e w18 ⟨g2, B2, rfl, hB2, hG18, hb18⟩
        clear D10
        have hB218 : B2 ≤ w18.heap.size := by
          obtain ⟨ps, cs, pr, cr, L, k⟩ := hG18
          exact Nat.le_trans k.low (Nat.le_of_lt (Array.getElem?_eq_some_iff.1 k.cell).1)
        obtain ⟨w19, hw19⟩ : ∃ W, W = w18.alloc (pO d g2) := ⟨_, rfl⟩
        have b1819 : Below w18.heap.size w18 w19 := by rw [hw19]; exact bal (Below.refl _ _) _
        have hh19 : w19.heap[w18.heap.size]? = some (pO d g2) := by rw [hw19]; exact heap_new _ _
        have hl19 : w18.heap.size < w19.heap.size := (Array.getElem?_eq_some_iff.1 hh19).1
        have b1719 : Below w17.heap.size w17 w19 := hb18.trans (b1819.mono hb18.size)
        have hb319 : Below w3.heap.size w3 w19 := (unhide HB9).trans (((unhide HB17).trans (b1719.mono (unhide HB17).size)).mono (unhide HB9).size)
        have HB19 := hide hb319
        have HB1719 := hide b1719
        have HG19 := hide (hG18.below b1819)
        have HH1 : Hid (∀ W, Below w19.heap.size w19 W → W.heap[w18.heap.size]? = some (pO d g2) ∧ W.heap[w1.heap.size]? = some (ageO a0 a1 a2 a3 a4) ∧ W.heap[w.heap.size]? = some (.cells #[.string acc] 9) ∧ W.heap[w2.heap.size]? = some (.cells #[.int .i64 t] 3) ∧ Kg.Pw W ∧ Dy.Mon W) := fun W hb => by
          have hb3 := (unhide HB19).trans (hb.mono (unhide HB19).size)
          exact ⟨(hb.block _ hl19).trans hh19, unhide HC1 W hb3, unhide HC0 W hb3, unhide HC2 W hb3, (unhide HPW).below hb3, (unhide HMO).below hb3⟩
        have hB219 : Hid (w17.heap.size ≤ B2 ∧ B2 ≤ w19.heap.size) := ⟨hB2, Nat.le_trans hB218 b1819.size⟩
        have hw19' : w18.alloc (.cells #[.int .i64 (d : Int), .pointer (some ⟨g2, 0, none⟩)] 130) = w19 := hw19.symm
        obtain ⟨pb, hpb⟩ : ∃ q, q = w18.heap.size := ⟨_, rfl⟩
        rw [← hpb] at HH1
        have HPB := hide hpb
        clear hw19 b1819 hh19 hl19 b1719 hb319 hB2 hB218 hG18 hb18 hpb
        unfold pV
        have DA := hide (agesOf_any a0 a1 a2 a3 a4 (w19.drewN 1))
        go_upto_region 21 with fail
        rw [← unhide HPB]
        have hs0 := unhide HH1 w19.drew (below_drewN (Below.refl _ _) 1)
        refine wp_region_last (n := 4) (S := fun W => W.heap[pb]? = some (pO d g2) ∧ W.heap[w1.heap.size]? = some (ageO a0 a1 a2 a3 a4)) (by kernel_rfl) ⟨hs0.1, hs0.2.1⟩ (fun hHeld => ?_)
        clear hs0
        refine tkN 0 ?_ (hy := by (refine Or.inl ⟨by rfl, ?_⟩; intro W hSW; obtain ⟨hA, hB⟩ := hSW; have h1 := run_ldP hA; unfold pV at h1; go_simp; try with_reducible rfl))
        refine tkN 1 ?_ (hy := by (refine Or.inl ⟨by rfl, ?_⟩; intro W hSW; obtain ⟨hA, hB⟩ := hSW; have h1 := run_ldE hB; unfold agV at h1; go_simp; try with_reducible rfl))
        clear hHeld
        unfold agV at DA
        refine wpAnyL_one (i := 2) (by kernel_rfl) rfl (fun KK hK => ?_)
        go_simp
        go_wp2_with (go_at_call 93; refine (unhide DA).mono ?_; rintro e w20 ⟨ga, rfl, hg20, hb20⟩)
        have hb1920 : Below w19.heap.size w19 w20 := (below_drewN (Below.refl _ _) 1).trans hb20
        have hs20 := unhide HH1 w20 hb1920
        refine hK.out _ _ ⟨hs20.1, hs20.2.1⟩ (fun hHeld => ?_)
        have hg20B : B2 ≤ w20.heap.size := Nat.le_trans (unhide hB219).2 hb1920.size
        have DPS : Hid (Calls Tryz.prog 92 #[.agg #[.int .i64 (d : Int), .pointer (some ⟨g2, 0, none⟩)], .slice (some ⟨ga, 0, none⟩) 5 5] w20 (fun e w' => (∃ v, e = .returned v) ∧ Gr B2 w' g2 [0, 1] ([] ++ (agL a0 a1 a2 a3 a4).map fun x => [x.lab.data.toList, txt x.amt d]) ∧ Gd B2 w20 w')) := by
          refine pairs_any ((unhide HG19).below hb1920) d hd' (X := agL a0 a1 a2 a3 a4) rfl (fun W hW => ⟨ag_lies ((hW.kept _ _ _ _ hg20 (by decide) (by decide)).trans hg20), ?_⟩) (fun x hx => ?_) (by decide)
          · have h3 := unhide HPW
            have hb := ((unhide HB17).trans ((unhide HB1719).mono (unhide HB17).size))
            have hbz : Below w17.heap.size w17 W := ((unhide HB1719).trans (hb1920.mono (unhide HB1719).size)).trans (hW.bel.mono (unhide hB219).1)
            exact h3.below ((unhide HB9).trans (((unhide HB17).trans (hbz.mono (unhide HB17).size)).mono (unhide HB9).size))
          · simp only [agL, List.mem_cons, List.not_mem_nil, or_false] at hx
            have h := unhide HAG
            rcases hx with rfl | rfl | rfl | rfl | rfl <;> exact h _ (by simp)
        have HB20 := hide hb1920
        have HS20 := hide hs20
        have HG2B := hide hg20B
        clear hK KK hHeld hb1920 hs20 hg20 hb20 DA hg20B
        refine wpAnyL_one (i := 3) (by kernel_rfl) rfl (fun KK hK => ?_)
        go_simp
        go_wp2_with (go_at_call 92; refine (unhide DPS).mono ?_; rintro e w21 ⟨⟨v21, rfl⟩, hG21, hd21⟩)
        have hk21 : ∀ (k : Nat) (ys : Array Value) (tt : TypeId) (f : Nat × Nat), w20.heap[k]? = some (Obj.cells ys tt f) → tt ≠ 192 → tt ≠ 93 → w21.heap[k]? = some (Obj.cells ys tt f) := fun k ys tt f hk h1 h2 => (hd21.kept k ys tt f hk h1 h2).trans hk
        have q1 := hk21 _ _ _ _ (unhide HS20).1 (by decide) (by decide)
        have q2 := hk21 _ _ _ _ (unhide HS20).2.1 (by decide) (by decide)
        have HQ21 : Hid (w21.heap[pb]? = some (pO d g2) ∧ w21.heap[w.heap.size]? = some (.cells #[.string acc] 9) ∧ w21.heap[w2.heap.size]? = some (.cells #[.int .i64 t] 3)) := ⟨q1, hk21 _ _ _ _ (unhide HS20).2.2.1 (by decide) (by decide), hk21 _ _ _ _ (unhide HS20).2.2.2.1 (by decide) (by decide)⟩
        have HB21 : Hid (Below w17.heap.size w17 w21) := ((unhide HB1719).trans ((unhide HB20).mono (unhide HB1719).size)).trans (hd21.bel.mono (unhide hB219).1)
        have HG21 := hide hG21
        refine hK.out _ _ ⟨q1, q2⟩ (fun hHeld => ?_)
        clear hK KK hHeld q1 q2 hk21 hG21 DPS HS20
        refine wpAnyL_done (by kernel_rfl) ?_
        have l21 := run_ldP (unhide HQ21).1
        unfold pV at l21
        have h321 : Below w3.heap.size w3 w21 := (unhide HB9).trans (((unhide HB17).trans ((unhide HB21).mono (unhide HB17).size)).mono (unhide HB9).size)
        have DP := hide (pair_any (unhide HG21) d hd' (txB [83, 117, 109]) b (unhide hbA') ((unhide HPW).below h321) (by simp [agL]))
        unfold pV at DP
        have HG2B21 : Hid (B2 ≤ w21.heap.size) := Nat.le_trans (unhide HG2B) hd21.bel.size
        clear h321 hd21
        go_wp2_with (go_at_call 94; refine (unhide DP).mono ?_; rintro e w22 ⟨⟨v22, rfl⟩, hG22, hd22⟩; have hk22 : ∀ (k : Nat) (ys : Array Value) (tt : TypeId) (f : Nat × Nat), w21.heap[k]? = some (Obj.cells ys tt f) → tt ≠ 192 → tt ≠ 93 → w22.heap[k]? = some (Obj.cells ys tt f) := (fun k ys tt f hk h1 h2 => (hd22.kept k ys tt f hk h1 h2).trans hk); have HQ22 : Hid (w22.heap[pb]? = some (pO d g2) ∧ w22.heap[w.heap.size]? = some (.cells #[.string acc] 9) ∧ w22.heap[w2.heap.size]? = some (.cells #[.int .i64 t] 3)) := ⟨hk22 _ _ _ _ (unhide HQ21).1 (by decide) (by decide), hk22 _ _ _ _ (unhide HQ21).2.1 (by decide) (by decide), hk22 _ _ _ _ (unhide HQ21).2.2 (by decide) (by decide)⟩; have HB22 : Hid (Below w17.heap.size w17 w22) := (unhide HB21).trans (hd22.bel.mono (unhide hB219).1); have HG22 := hide hG22; clear hk22 hd22 hG22 DP l21)
        have HCC : Hid (∀ W, Below w22.heap.size w22 W → W.cell? ⟨w.heap.size, 0, none⟩ = some (.string acc) ∧ W.cell? ⟨w2.heap.size, 0, none⟩ = some (.int .i64 t) ∧ W.cell? ⟨pb, 1, none⟩ = some (.pointer (some ⟨g2, 0, none⟩))) := fun W hb => by
          obtain ⟨q1, q2, q3⟩ := unhide HQ22
          refine ⟨?_, ?_, ?_⟩
          · rw [cell_at ((hb.block _ (Array.getElem?_eq_some_iff.1 q2).1).trans q2)]; rfl
          · rw [cell_at ((hb.block _ (Array.getElem?_eq_some_iff.1 q3).1).trans q3)]; rfl
          · rw [cell_at ((hb.block _ (Array.getElem?_eq_some_iff.1 q1).1).trans q1)]; rfl
        have HPM : Hid (∀ W, Below w22.heap.size w22 W → Kg.Pw W ∧ Dy.Mon W ∧ Below w17.heap.size w17 W) := fun W hb => by
          have h17 := (unhide HB22).trans (hb.mono (unhide HB22).size)
          have h3 := (unhide HB9).trans (((unhide HB17).trans (h17.mono (unhide HB17).size)).mono (unhide HB9).size)
          exact ⟨(unhide HPW).below h3, (unhide HMO).below h3, h17⟩
        obtain ⟨T1, hT1⟩ : ∃ T, T = txB (dtx t) := ⟨_, rfl⟩
        obtain ⟨T2, hT2⟩ : ∃ T, T = txB (gridT (rgt [0, 0, 0, 1, 1]) (rowsS d t X)) := ⟨_, rfl⟩
        obtain ⟨T3, hT3⟩ : ∃ T, T = txB (gridT (rgt [0, 1]) (secS d (agL a0 a1 a2 a3 a4) b)) := ⟨_, rfl⟩
        have z0 : acc.size ≤ 101 := by
          have := name_short hnm
          have e : acc.data.toList.length = acc.size := by simp
          omega
        have z1 : T1.size ≤ 100 := by rw [hT1, txB_len]; exact dtx_len t
        have z2 : T2.size ≤ 100000000000 := by
          rw [hT2, txB_len]
          have := grid_len (rgt [0, 0, 0, 1, 1]) (rowsS_len d t X) (rowsS_cell hd' htD (unhide HFI))
          rw [rowsS_count, unhide HX] at this
          have := unhide HN
          omega
        have z3 : T3.size ≤ 100000000000 := by
          rw [hT3, txB_len]
          have := grid_len (rgt [0, 1]) (secS_len d _ b) (secS_cell hd' (agL_lab a0 a1 a2 a3 a4) b)
          have e : (secS d (agL a0 a1 a2 a3 a4) b).length = 6 := rfl
          rw [e] at this
          omega
        have k1 : ¬ 9223372036854775807 < 13 + acc.size := by omega
        have k2 : ¬ 9223372036854775807 < 13 + acc.size + 4 := by omega
        have k3 : ¬ 9223372036854775807 < 13 + acc.size + 4 + T1.size := by omega
        have k4 : ¬ 9223372036854775807 < 13 + acc.size + 4 + T1.size + 1 := by omega
        have k5 : ¬ 9223372036854775807 < 13 + acc.size + 4 + T1.size + 1 + T2.size := by omega
        have k6 : ¬ 9223372036854775807 < 13 + acc.size + 4 + T1.size + 1 + T2.size + T3.size := by omega
        have HT1 := hide hT1; have HT2 := hide hT2; have HT3 := hide hT3
        clear z0 z1 z2 z3 hT1 hT2 hT3
        have hs0 := unhide HCC w22.drew (below_drewN (Below.refl _ _) 1)
        refine wp_region_last (n := 16) (S := fun W => W.cell? ⟨w.heap.size, 0, none⟩ = some (.string acc) ∧ W.cell? ⟨w2.heap.size, 0, none⟩ = some (.int .i64 t) ∧ W.cell? ⟨pb, 1, none⟩ = some (.pointer (some ⟨g2, 0, none⟩))) (by kernel_rfl) hs0 (fun hHeld => ?_)
        clear hs0
        refine tkN 0 ?_ (hy := by (refine Or.inl ⟨by rfl, ?_⟩; intro W hSW; obtain ⟨hA, hB, hC⟩ := hSW; go_simp; try with_reducible rfl))
        refine tkW 1 ?_; refine tkW 2 ?_
        refine tkN 3 ?_ (hy := by (refine Or.inl ⟨by rfl, ?_⟩; intro W hSW; obtain ⟨hA, hB, hC⟩ := hSW; go_simp; try with_reducible rfl))
        refine tkW 7 ?_; refine tkW 10 ?_
        refine tkN 11 ?_ (hy := by (refine Or.inl ⟨by rfl, ?_⟩; intro W hSW; obtain ⟨hA, hB, hC⟩ := hSW; go_simp; try with_reducible rfl))
        clear hHeld
        have pm := unhide HPM (w22.drewN 1) (below_drewN (Below.refl _ _) 1)
        have DT := dayText_any t htD (w22.drewN 1) pm.2.1 pm.1
        unfold TxtOut at DT
        rw [← unhide HT1] at DT
        have DT := hide DT
        clear pm
        refine wpAnyL_one (i := 4) (by kernel_rfl) rfl (fun KK hK => ?_)
        go_simp
        go_wp2_with (go_at_call 95; refine (unhide DT).mono ?_; rintro e w23 ⟨rfl, hb23⟩)
        have hb2223 : Below w22.heap.size w22 w23 := (below_drewN (Below.refl _ _) 1).trans hb23
        have HB23 := hide hb2223
        refine hK.out _ _ (unhide HCC w23 hb2223) (fun hHeld => ?_)
        clear hK KK hb23 hb2223 DT
        refine tkW 5 ?_; refine tkW 6 ?_
        clear hHeld
        have DG1 := (gtext_of ((unhide HG17).below (unhide HPM w23 (unhide HB23)).2.2) (by decide) (rowsS_len d t X) (M := 200) (rowsS_cell hd' htD (unhide HFI)) (by decide) (by rw [rowsS_count, unhide HX]; have := unhide HN; show _ * (5 * _ + 1) ≤ _; omega) (by rw [rowsS_count, unhide HX]; have := unhide HN; omega))
        unfold TxtOut at DG1
        rw [← unhide HT2] at DG1
        have DG1 := hide DG1
        refine wpAnyL_one (i := 8) (by kernel_rfl) rfl (fun KK hK => ?_)
        go_simp
        go_wp2_with (go_at_call 51; refine (unhide DG1).mono ?_; rintro e w24 ⟨rfl, hb24⟩)
        have hb2224 : Below w22.heap.size w22 w24 := (unhide HB23).trans (hb24.mono (unhide HB23).size)
        have HB24 := hide hb2224
        refine hK.out _ _ (unhide HCC w24 hb2224) (fun hHeld => ?_)
        clear hK KK hb24 hb2224 DG1
        refine tkW 9 ?_
        clear hHeld
        have hsec : [] ++ (agL a0 a1 a2 a3 a4).map (fun x => [x.lab.data.toList, txt x.amt d]) ++ [[(txB [83, 117, 109]).data.toList, txt b d]] = secS d (agL a0 a1 a2 a3 a4) b := rfl
        have hg24 := (unhide HG22).below (unhide HB24)
        rw [hsec] at hg24
        have DG2 := (gtext_of hg24 (by decide) (secS_len d _ b) (M := 200) (secS_cell hd' (agL_lab a0 a1 a2 a3 a4) b) (by decide) (by show (6 + 1) * (2 * (200 + 2) + 1) ≤ _; decide) (by show 6 ≤ _; decide))
        clear hsec hg24
        unfold TxtOut at DG2
        rw [← unhide HT3] at DG2
        have DG2 := hide DG2
        refine wpAnyL_one (i := 12) (by kernel_rfl) rfl (fun KK hK => ?_)
        go_simp
        go_wp2_with (go_at_call 51; refine (unhide DG2).mono ?_; rintro e w25 ⟨rfl, hb25⟩)
        have hb2225 : Below w22.heap.size w22 w25 := (unhide HB24).trans (hb25.mono (unhide HB24).size)
        have HB25 := hide hb2225
        refine hK.out _ _ (unhide HCC w25 hb2225) (fun hHeld => ?_)
        clear hK KK hb25 hb2225 DG2
        refine tkW 13 ?_; refine tkW 14 ?_; refine tkW 15 ?_
        clear hHeld
        refine wpAnyL_done (by kernel_rfl) ?_
        go_wp2_with fail
        go_ret2
        refine ⟨?_, ?_⟩
        · have e : (⟨#[83, 116, 97, 116, 101, 109, 101, 110, 116, 32, 111, 102, 32]⟩ : ByteArray) ++ acc ++ ⟨#[32, 97, 116, 32]⟩ ++ T1 ++ ⟨#[10]⟩ ++ T2 ++ T3 = txB (staT d acc X [a0, a1, a2, a3, a4] t) := by
            rw [unhide HT1, unhide HT2, unhide HT3]
            unfold staT hdrS
            rw [← txB_app, ← txB_app, ← txB_app, ← txB_app, ← txB_app, ← txB_app, ← unhide HBB]
            rfl
          rw [unhide HANS]
          show _ = Ending.returned (.tuple #[.string (txB (staT d acc X [a0, a1, a2, a3, a4] t)), .int .i64 0])
          rw [← e]
          rfl
        · have h3 : Below w3.heap.size w3 w25 := (unhide HB9).trans (((unhide HB17).trans ((unhide HPM w25 (unhide HB25)).2.2.mono (unhide HB17).size)).mono (unhide HB9).size)
          exact (unhide HB1).trans (h3.mono (unhide HB1).size)
      · have hob : (oe != 0) = true := by rw [bne_iff_ne]; exact ho
        have HE : Hid (ansS (d : Int) acc X [a0, a1, a2, a3, a4] t = ([], oe)) := by
          have e : errS (d : Int) acc X [a0, a1, a2, a3, a4] t = oe := by
            unfold errS
            rw [if_neg (unhide HNB), if_neg (unhide HNM), if_neg (by rw [← unhide HF]; simp), if_neg (by have := unhide HM0; omega), unhide HOE, unhide HEA, unhide HEB]
          show _ = _
          unfold ansS
          rw [e, if_neg ho]
        go_wp2_with fail
        go_ret2
        exact ⟨by rw [unhide HE]; rfl, (unhide HB1).trans ((unhide HB7).mono (unhide HB1).size)⟩
  · have hFb : (F != 0) = true := by rw [bne_iff_ne]; exact hF0
    have HE : Hid (ansS (d : Int) acc X [a0, a1, a2, a3, a4] t = ([], F)) := by
      have e : errS (d : Int) acc X [a0, a1, a2, a3, a4] t = F := by
        unfold errS
        rw [if_neg (unhide HNB), if_neg (unhide HNM), ← hF, if_pos hF0]
      show _ = _
      unfold ansS
      rw [e, if_neg hF0]
    clear hw1 hw2 hw3 b03 b13 b23 hh1 hh2 hh3 hh31 hh32 hX hL hP hM hok hF hA hacc hn
    go_enter Tryz.func21, Tryz.ntmps21
    go_wp2_with first | (go_at_call 37; refine (unhide D).mono ?_; rintro e wz ⟨rfl, hwz⟩; rw [hwz]; clear hwz wz) | (go_at_call 75; refine (unhide DD).mono ?_; rintro e wz ⟨rfl, hwz⟩; rw [hwz]; clear hwz wz) | (go_at_call 76; refine (unhide DG).mono ?_; rintro e w4 ⟨rfl, hb4⟩; have HB4 := hide hb4; have df := hide (unhide DF w4 hb4); clear hb4) | (go_at_call 77; refine (unhide df).mono ?_; rintro e w5 ⟨rfl, hb5⟩; have HB5 := hide ((unhide HB4).trans (hb5.mono (unhide HB4).size)); clear hb5)
    go_ret2
    exact ⟨by rw [unhide HE]; rfl, (unhide HB1).trans ((unhide HB5).mono (unhide HB1).size)⟩
/-- the program's Statement -/
theorem statement_any {w : World} (hP : Kg.Pw w) (hM : Dy.Mon w) {p : Option Addr} {n c : Nat} {X : List Qm} (hX : X.length = n) (hL : Lies kQ w p X) (hok : ∀ x ∈ X, QmOk x) (hn : n ≤ 1048576) (acc : ByteArray) (hacc : acc.size < 4611686018427387904) (a0 a1 a2 a3 a4 : Int)
    (hA : ∀ z ∈ [a0, a1, a2, a3, a4], fits64 z) (t : Int) (ht : fits64 t) (dg : Int) (hdg : fits64 dg) :
    Calls Tryz.prog 21 #[.string acc, .slice p n c, agV a0 a1 a2 a3 a4, .int .i64 t, .int .i64 dg] w (TriOut w (ansS dg acc X [a0, a1, a2, a3, a4] t)) := by
  by_cases hb : dg < 0 ∨ 6 < dg ∨ isDb t = false ∨ nameL acc.data.toList = false
  · exact statement_bad hX acc hacc a0 a1 a2 a3 a4 t ht dg hdg hb
  · obtain ⟨d, rfl⟩ : ∃ d : Nat, dg = (d : Int) := ⟨dg.toNat, by omega⟩
    refine statement_good hP hM hX hL hok hn acc hacc a0 a1 a2 a3 a4 hA t d (by omega) ?_ ?_
    · cases h : isDb t with
      | true => rfl
      | false => exact absurd (.inr (.inr (.inl h))) hb
    · cases h : nameL acc.data.toList with
      | true => rfl
      | false => exact absurd (.inr (.inr (.inr h))) hb
end Go.Proofs.YtcafhmlpmbkhkaaGreatDoor
