import Derived.Test.YtcafhmlpmbkhkaaGreatDoorW09
import Derived.Test.YtcafhmlpmbkhkaaGreatDoorW29
/- The amounts of claims (worths 163), their sum (total 81), the first fault (firstFault 77). -/
namespace Go.Proofs.YtcafhmlpmbkhkaaGreatDoor
open Go Go.Shelf Go.ChangeShapes Go.WideShapes Go.ChangeAt Go.RowKit Go.Maps
set_option linter.unusedVariables false
set_option linter.unusedSimpArgs false
attribute [local go_sem ↓] ldQ_is
set_option maxRecDepth 100000 in
set_option maxHeartbeats 8000000 in
theorem worQ {w : World} {p : Option Addr} {n c : Nat} {X : List Qm} (hX : X.length = n) (hL : Lies kQ w p X) {fv : Value} {f : Qm → Int} {ok : Qm → Prop} (hok : ∀ x ∈ X, ok x) (hfn : WnOK cvQ ok fv f) (hn : n ≤ 30000000000000) :
    Calls Tryz.prog 163 #[.slice p n c, fv] w (WorOut w (X.map f)) := by
  obtain ⟨g, eg, rfl, hcall⟩ := hfn
  have hmk : (Instr.makeSlice 92 (.int .i64 (n : Int)) (.int .i64 (n : Int))).run Tryz.prog w = .ok (.slice (some ⟨w.heap.size, 0, none⟩) n n) (w.alloc (.cells (madeCells (Value.int .i64 0).cells (n * 1)) 2)) := run_mk (z := .int .i64 0) (s := 1) (b := 8) w 92 2 Tryz.underlying92 (by kernel_rfl) n (by omega) (by omega)
  have hlr : (X.map f).length = n := by rw [List.length_map, hX]
  obtain ⟨w0, hw0⟩ : ∃ w0, w0 = w.alloc (.cells (madeCells (Value.int .i64 0).cells (n * 1)) 2) := ⟨_, rfl⟩
  have A0 : NsAt w (X.map f) 0 w.heap.size w0 := by
    have := NsAt.begin w (X.map f) (by omega)
    rwa [hlr, ← hw0] at this
  rw [← hw0] at hmk
  have HA0 := hide A0; have HX := hide hX; have HL := hide hL; have HOK := hide hok; have HC := hide hcall; have HLR := hide hlr
  clear A0 hX hL hok hcall hlr hw0
  go_enter Tryz.func163, Tryz.ntmps163
  go_wp2_with fail
  go_loopw [13] (fun iv wr => ∃ (k : Nat) (K : Int), k ≤ n ∧ iv = .int .i64 K ∧ K = (k : Int) ∧ Hid (NsAt w (X.map f) k w.heap.size wr)) (fun iv _ => ((n : Int) - intOf iv).toNat)
  case atStart => exact ⟨0, 0, by omega, rfl, rfl, unhide HA0⟩
  case round =>
    clear hmk
    obtain ⟨wo, rfl⟩ : ∃ x, x = wr := ⟨wr, rfl⟩
    obtain ⟨k, K, hk, rfl, hK, HA⟩ := hrel
    by_cases hlt : k < n
    · have hI : K < (n : Int) := by omega
      have hK0 : 0 ≤ K := by omega
      have hKt : K.toNat = k := by omega
      have hkX : k < X.length := by have := unhide HX; omega
      obtain ⟨b, o, ep, hb, hld⟩ := ((unhide HL).below' (unhide HA).bel).ldQ hkX
      obtain ⟨x, hx⟩ : ∃ x, x = X[k] := ⟨_, rfl⟩
      rw [← hx] at hld
      have hxm : x ∈ X := by rw [hx]; exact List.getElem_mem hkX
      have HTX : Hid ((X.map f)[k]? = some (f x)) := by show _ = _; rw [List.getElem?_map, List.getElem?_eq_getElem hkX, ← hx]; rfl
      subst ep
      obtain ⟨w1, hw1⟩ : ∃ w1, w1 = wo.alloc (obQ x) := ⟨_, rfl⟩
      have b1 : Below wo.heap.size wo w1 := by rw [hw1]; exact bal (Below.refl _ _) _
      have hlv : (ldQ (.pointer (some ⟨wo.heap.size, 0, none⟩))).run Tryz.prog w1 = .ok (cvQ x) w1 := by rw [hw1]; exact ld_varQ wo x (Below.refl _ _)
      have d := hide (unhide HC x w1 (unhide HOK x hxm))
      have HA1 := hide ((unhide HA).below b1)
      have HK := hide hK
      obtain ⟨vx, hvx⟩ : ∃ v, v = cvQ x := ⟨_, rfl⟩
      rw [← hvx] at hlv d
      have hw1' : wo.alloc (.cells #[.string x.key, .string x.acc, .int .i64 x.day, .int .i64 x.due, .int .i64 x.amt] 53) = w1 := by rw [hw1]; rfl
      unfold cvQ at hld
      clear b1 hw1 hkX hlt hK hvx hxm hx HA
      go_wp2_with fail
      refine (unhide d).mono ?_
      rintro e w3 ⟨rfl, hb3⟩
      have hC3 := (unhide HA1).below hb3
      have st3 : w3.cell? ⟨w.heap.size, k, none⟩ ≠ none := by
        rw [hC3.own.cellAt k (by have := unhide HLR; omega), kN_flat, List.getElem?_map, List.getElem?_eq_getElem (by rw [midN_len _ _ (by have := unhide HLR; omega)]; have := unhide HLR; omega)]
        simp
      obtain ⟨u3, hu3⟩ := Option.ne_none_iff_exists'.1 st3
      have fr3 : w3.frozen? ⟨w.heap.size, k, none⟩ = false := hC3.own.frozenAt k
      have HS := hide (hC3.set (unhide HTX))
      obtain ⟨TX, hTX⟩ : ∃ v, v = f x := ⟨_, rfl⟩
      rw [← hTX] at HS ⊢
      clear hb3 hC3 st3 d hld hlv hTX hw1' HA1
      go_wp2_with fail
      exact ⟨⟨k + 1, K + 1, by have := unhide HK; omega, by go_num, by have := unhide HK; omega, unhide HS⟩, by have := unhide HK; simp [intOf]; omega⟩
    · have hI : ¬ K < (n : Int) := by omega
      have HF : Hid (WorOut w (X.map f) (.returned (.slice (some ⟨w.heap.size, 0, none⟩) n n)) wo) := by
        have h1 := unhide HA
        have ek : k = (X.map f).length := by have := unhide HLR; omega
        rw [ek] at h1
        exact ⟨_, by rw [unhide HLR], h1⟩
      clear HA hK
      go_wp2_with fail
      go_ret
      exact unhide HF
set_option maxRecDepth 100000 in
set_option maxHeartbeats 8000000 in
theorem totQ {w : World} {p : Option Addr} {n c : Nat} {X : List Qm} (hX : X.length = n) (hL : Lies kQ w p X) {fv : Value} {f : Qm → Int} {ok : Qm → Prop} (hok : ∀ x ∈ X, ok x) (hfn : WnOK cvQ ok fv f) (hf : ∀ x ∈ X, -9223372036854775808 ≤ f x ∧ f x ≤ 9223372036854775807) (hn : n ≤ 30000000000000) :
    Calls Tryz.prog 81 #[.slice p n c, fv] w (TotOut w (X.map f)) := by
  have hlr : (X.map f).length = n := by rw [List.length_map, hX]
  have d := hide (worQ (c := c) hX hL hok hfn hn)
  have HF : Hid (∀ k, k < n → -9223372036854775808 ≤ (X.map f).getD k 0 ∧ (X.map f).getD k 0 ≤ 9223372036854775807) := fun k hk => by
    rw [List.getD_eq_getElem?_getD, List.getElem?_map, List.getElem?_eq_getElem (by omega)]
    exact hf _ (List.getElem_mem _)
  obtain ⟨g, eg, rfl, hcall⟩ := hfn
  have HLR := hide hlr
  clear hlr hX hL hok hf hcall eg
  go_enter Tryz.func81, Tryz.ntmps81
  go_wp2_with fail
  refine (unhide d).mono ?_
  rintro e w1 ⟨g1, rfl, hN⟩
  have d2 := hide (msum_any (fun k => (X.map f).getD k 0) g1 0 n n (by omega) (unhide HF) w1 (fun k hk => hN.cells k (by rw [unhide HLR]; exact hk)))
  have HB := hide hN.bel
  rw [unhide HLR]
  clear hN d
  go_wp2_with fail
  refine (unhide d2).mono ?_
  rintro e w2 ⟨rfl, hw2⟩
  subst hw2
  have HS : Hid ((sumSpec (fun k => (X.map f).getD k 0) n) = sumL (X.map f)) := by show _ = _; unfold sumL; rw [unhide HLR]
  obtain ⟨s1, hs1⟩ : ∃ s, s = (sumSpec (fun k => (X.map f).getD k 0) n).1 := ⟨_, rfl⟩
  obtain ⟨s2, hs2⟩ : ∃ s, s = (sumSpec (fun k => (X.map f).getD k 0) n).2 := ⟨_, rfl⟩
  rw [← hs1, ← hs2]
  have HS1 := hide hs1; have HS2 := hide hs2
  clear hs1 hs2 d2
  go_wp2_with fail
  go_ret2
  refine ⟨?_, unhide HB⟩
  rw [unhide HS1, unhide HS2, unhide HS]
  rfl
/-- the first fault of a list -/
def fstQ (f : Qm → Int) : List Qm → Int
  | [] => 0
  | x :: l => if f x = 0 then fstQ f l else f x
theorem fstQ_pre (f : Qm → Int) : ∀ (A B : List Qm), (∀ x ∈ A, f x = 0) → fstQ f (A ++ B) = fstQ f B
  | [], _, _ => rfl
  | a :: A, B, h => by
    rw [List.cons_append, fstQ, if_pos (h a (by simp))]
    exact fstQ_pre f A B (fun x hx => h x (by simp [hx]))
theorem fstQ_all {f : Qm → Int} {A : List Qm} (h : ∀ x ∈ A, f x = 0) : fstQ f A = 0 := by
  have := fstQ_pre f A [] h
  rwa [List.append_nil] at this
theorem fstQ_zero {f : Qm → Int} : ∀ {A : List Qm}, fstQ f A = 0 → ∀ x ∈ A, f x = 0
  | a :: A, h, x, hx => by
    rw [fstQ] at h
    by_cases ha : f a = 0
    · rw [if_pos ha] at h
      rcases List.mem_cons.1 hx with rfl | hx
      · exact ha
      · exact fstQ_zero h x hx
    · rw [if_neg ha] at h
      exact absurd h ha
set_option maxRecDepth 100000 in
set_option maxHeartbeats 8000000 in
theorem fltQ {w : World} {p : Option Addr} {n c : Nat} {X : List Qm} (hX : X.length = n) (hL : Lies kQ w p X) {g : Nat} (eg : ∀ args w, (callFunc g args).run Tryz.prog w = .ok (.enter g args) w) {cap : Array Value} (hcap : cap = #[] ∨ ∃ v, cap = #[v]) {f : Qm → Int} {ok : Qm → Prop} (hok : ∀ x ∈ X, ok x)
    (hfn : ∀ x W, ok x → Below w.heap.size w W → Calls Tryz.prog g (#[cvQ x] ++ cap) W fun e w' => e = .returned (.int .i64 (f x)) ∧ Below W.heap.size W w') (hn : n ≤ 30000000000000) :
    Calls Tryz.prog 77 #[.slice p n c, .func (.func g) #[] cap] w fun e w' => e = .returned (.int .i64 (fstQ f X)) ∧ Below w.heap.size w w' := by
  have HX := hide hX; have HL := hide hL; have HOK := hide hok; have HFN := hide hfn
  clear hX hL hok hfn
  rcases hcap with rfl | ⟨cvv, rfl⟩
  · go_enter Tryz.func77, Tryz.ntmps77
    go_wp2_with fail
    go_loopw [10] (fun iv wr => ∃ (k : Nat) (K : Int), k ≤ n ∧ iv = .int .i64 K ∧ K = (k : Int) ∧ Hid ((∀ x ∈ X.take k, f x = 0) ∧ Below w.heap.size w wr)) (fun iv _ => ((n : Int) - intOf iv).toNat)
    case atStart => exact ⟨0, 0, by omega, rfl, rfl, (fun x hx => by simp at hx), Below.refl _ _⟩
    case round =>
      obtain ⟨wo, rfl⟩ : ∃ x, x = wr := ⟨wr, rfl⟩
      obtain ⟨k, K, hk, rfl, hK, HA⟩ := hrel
      by_cases hlt : k < n
      · have hI : K < (n : Int) := by omega
        have hK0 : 0 ≤ K := by omega
        have hKt : K.toNat = k := by omega
        have hkX : k < X.length := by have := unhide HX; omega
        obtain ⟨b, o, ep, hb, hld⟩ := ((unhide HL).below' (unhide HA).2).ldQ hkX
        obtain ⟨x, hx⟩ : ∃ x, x = X[k] := ⟨_, rfl⟩
        rw [← hx] at hld
        have hxm : x ∈ X := by rw [hx]; exact List.getElem_mem hkX
        have HTK : Hid (X.take (k + 1) = X.take k ++ [x]) := by show _ = _; rw [List.take_succ_eq_append_getElem hkX, ← hx]
        have HDR : Hid (X = X.take k ++ x :: X.drop (k + 1)) := by have := (List.take_append_drop k X).symm; rw [List.drop_eq_getElem_cons hkX, ← hx] at this; exact this
        subst ep
        obtain ⟨w1, hw1⟩ : ∃ w1, w1 = wo.alloc (obQ x) := ⟨_, rfl⟩
        have b1 : Below w.heap.size w w1 := (unhide HA).2.trans (by rw [hw1]; exact (bal (Below.refl _ _) _).mono (unhide HA).2.size)
        have hlv : (ldQ (.pointer (some ⟨wo.heap.size, 0, none⟩))).run Tryz.prog w1 = .ok (cvQ x) w1 := by rw [hw1]; exact ld_varQ wo x (Below.refl _ _)
        have d : Calls Tryz.prog g #[cvQ x] w1 fun e w' => e = .returned (.int .i64 (f x)) ∧ Below w1.heap.size w1 w' := unhide HFN x w1 (unhide HOK x hxm) b1
        have HK := hide hK; have HB1 := hide b1
        obtain ⟨vx, hvx⟩ : ∃ v, v = cvQ x := ⟨_, rfl⟩
        obtain ⟨fx, hfx⟩ : ∃ z, z = f x := ⟨_, rfl⟩
        rw [← hvx] at hlv d
        rw [← hfx] at d
        have D := hide d
        have HFX := hide hfx
        have hw1' : wo.alloc (.cells #[.string x.key, .string x.acc, .int .i64 x.day, .int .i64 x.due, .int .i64 x.amt] 53) = w1 := by rw [hw1]; rfl
        unfold cvQ at hld
        have HPRE := hide (unhide HA).1
        clear b1 hw1 hkX hlt hK hvx hxm hx HA d hfx
        by_cases hz : fx = 0
        · subst hz
          go_wp2_with fail
          refine (unhide D).mono ?_
          rintro e w3 ⟨rfl, hb3⟩
          have HE : Hid ((∀ x ∈ X.take (k + 1), f x = 0) ∧ Below w.heap.size w w3) := by
            refine ⟨fun y hy => ?_, (unhide HB1).trans (hb3.mono (unhide HB1).size)⟩
            rw [unhide HTK, List.mem_append, List.mem_singleton] at hy
            rcases hy with hy | rfl
            · exact unhide HPRE y hy
            · exact (unhide HFX).symm
          clear hb3 hld hlv hw1'
          go_wp2_with fail
          exact ⟨⟨k + 1, K + 1, by have := unhide HK; omega, by go_num, by have := unhide HK; omega, unhide HE⟩, by have := unhide HK; simp [intOf]; omega⟩
        · have hzb : (fx == 0) = false := beq_eq_false_iff_ne.2 hz
          have hzn : (fx != 0) = true := by rw [bne_iff_ne]; exact hz
          go_wp2_with fail
          refine (unhide D).mono ?_
          rintro e w3 ⟨rfl, hb3⟩
          have HE : Hid (Ending.returned (.int .i64 fx) = .returned (.int .i64 (fstQ f X)) ∧ Below w.heap.size w w3) := by
            refine ⟨?_, (unhide HB1).trans (hb3.mono (unhide HB1).size)⟩
            rw [unhide HDR, fstQ_pre f _ _ (unhide HPRE), fstQ, ← unhide HFX, if_neg hz]
          clear hb3 hld hlv hw1'
          go_wp2_with fail
          go_ret
          exact unhide HE
      · have hI : ¬ K < (n : Int) := by omega
        have HE : Hid (Ending.returned (.int .i64 0) = .returned (.int .i64 (fstQ f X)) ∧ Below w.heap.size w wo) := by
          refine ⟨?_, (unhide HA).2⟩
          have h1 := (unhide HA).1
          rw [List.take_of_length_le (by have := unhide HX; omega)] at h1
          rw [fstQ_all h1]
        clear HA hK
        go_wp2_with fail
        go_ret
        exact unhide HE
  · go_enter Tryz.func77, Tryz.ntmps77
    go_wp2_with fail
    go_loopw [10] (fun iv wr => ∃ (k : Nat) (K : Int), k ≤ n ∧ iv = .int .i64 K ∧ K = (k : Int) ∧ Hid ((∀ x ∈ X.take k, f x = 0) ∧ Below w.heap.size w wr)) (fun iv _ => ((n : Int) - intOf iv).toNat)
    case atStart => exact ⟨0, 0, by omega, rfl, rfl, (fun x hx => by simp at hx), Below.refl _ _⟩
    case round =>
      obtain ⟨wo, rfl⟩ : ∃ x, x = wr := ⟨wr, rfl⟩
      obtain ⟨k, K, hk, rfl, hK, HA⟩ := hrel
      by_cases hlt : k < n
      · have hI : K < (n : Int) := by omega
        have hK0 : 0 ≤ K := by omega
        have hKt : K.toNat = k := by omega
        have hkX : k < X.length := by have := unhide HX; omega
        obtain ⟨b, o, ep, hb, hld⟩ := ((unhide HL).below' (unhide HA).2).ldQ hkX
        obtain ⟨x, hx⟩ : ∃ x, x = X[k] := ⟨_, rfl⟩
        rw [← hx] at hld
        have hxm : x ∈ X := by rw [hx]; exact List.getElem_mem hkX
        have HTK : Hid (X.take (k + 1) = X.take k ++ [x]) := by show _ = _; rw [List.take_succ_eq_append_getElem hkX, ← hx]
        have HDR : Hid (X = X.take k ++ x :: X.drop (k + 1)) := by have := (List.take_append_drop k X).symm; rw [List.drop_eq_getElem_cons hkX, ← hx] at this; exact this
        subst ep
        obtain ⟨w1, hw1⟩ : ∃ w1, w1 = wo.alloc (obQ x) := ⟨_, rfl⟩
        have b1 : Below w.heap.size w w1 := (unhide HA).2.trans (by rw [hw1]; exact (bal (Below.refl _ _) _).mono (unhide HA).2.size)
        have hlv : (ldQ (.pointer (some ⟨wo.heap.size, 0, none⟩))).run Tryz.prog w1 = .ok (cvQ x) w1 := by rw [hw1]; exact ld_varQ wo x (Below.refl _ _)
        have d : Calls Tryz.prog g #[cvQ x, cvv] w1 fun e w' => e = .returned (.int .i64 (f x)) ∧ Below w1.heap.size w1 w' := unhide HFN x w1 (unhide HOK x hxm) b1
        have HK := hide hK; have HB1 := hide b1
        obtain ⟨vx, hvx⟩ : ∃ v, v = cvQ x := ⟨_, rfl⟩
        obtain ⟨fx, hfx⟩ : ∃ z, z = f x := ⟨_, rfl⟩
        rw [← hvx] at hlv d
        rw [← hfx] at d
        have D := hide d
        have HFX := hide hfx
        have hw1' : wo.alloc (.cells #[.string x.key, .string x.acc, .int .i64 x.day, .int .i64 x.due, .int .i64 x.amt] 53) = w1 := by rw [hw1]; rfl
        unfold cvQ at hld
        have HPRE := hide (unhide HA).1
        clear b1 hw1 hkX hlt hK hvx hxm hx HA d hfx
        by_cases hz : fx = 0
        · subst hz
          go_wp2_with fail
          refine (unhide D).mono ?_
          rintro e w3 ⟨rfl, hb3⟩
          have HE : Hid ((∀ x ∈ X.take (k + 1), f x = 0) ∧ Below w.heap.size w w3) := by
            refine ⟨fun y hy => ?_, (unhide HB1).trans (hb3.mono (unhide HB1).size)⟩
            rw [unhide HTK, List.mem_append, List.mem_singleton] at hy
            rcases hy with hy | rfl
            · exact unhide HPRE y hy
            · exact (unhide HFX).symm
          clear hb3 hld hlv hw1'
          go_wp2_with fail
          exact ⟨⟨k + 1, K + 1, by have := unhide HK; omega, by go_num, by have := unhide HK; omega, unhide HE⟩, by have := unhide HK; simp [intOf]; omega⟩
        · have hzb : (fx == 0) = false := beq_eq_false_iff_ne.2 hz
          have hzn : (fx != 0) = true := by rw [bne_iff_ne]; exact hz
          go_wp2_with fail
          refine (unhide D).mono ?_
          rintro e w3 ⟨rfl, hb3⟩
          have HE : Hid (Ending.returned (.int .i64 fx) = .returned (.int .i64 (fstQ f X)) ∧ Below w.heap.size w w3) := by
            refine ⟨?_, (unhide HB1).trans (hb3.mono (unhide HB1).size)⟩
            rw [unhide HDR, fstQ_pre f _ _ (unhide HPRE), fstQ, ← unhide HFX, if_neg hz]
          clear hb3 hld hlv hw1'
          go_wp2_with fail
          go_ret
          exact unhide HE
      · have hI : ¬ K < (n : Int) := by omega
        have HE : Hid (Ending.returned (.int .i64 0) = .returned (.int .i64 (fstQ f X)) ∧ Below w.heap.size w wo) := by
          refine ⟨?_, (unhide HA).2⟩
          have h1 := (unhide HA).1
          rw [List.take_of_length_le (by have := unhide HX; omega)] at h1
          rw [fstQ_all h1]
        clear HA hK
        go_wp2_with fail
        go_ret
        exact unhide HE
end Go.Proofs.YtcafhmlpmbkhkaaGreatDoor
