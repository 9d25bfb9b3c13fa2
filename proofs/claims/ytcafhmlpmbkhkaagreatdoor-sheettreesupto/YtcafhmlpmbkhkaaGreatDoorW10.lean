import Derived.Test.YtcafhmlpmbkhkaaGreatDoorW09
import Derived.Test.YtcafhmlpmbkhkaaGreatDoorW04
import Derived.Test.YtcafhmlpmbkhkaaGreatDoorW07
import Derived.Lib.LaidTab
import Derived.Sort.Grow
import Derived.Lib.ItoaLen
import Derived.Shelf.SlSortCmp.QuietGrown
import Derived.Deep.RegionHeld3
/- The amounts of columns (worths 134), their sum (total 40), the first fault (firstFault 38). -/
namespace Go.Proofs.YtcafhmlpmbkhkaaGreatDoor
open Go Go.Shelf Go.ChangeShapes Go.WideShapes Go.ChangeAt Go.RowKit Go.Maps
set_option linter.unusedVariables false
set_option linter.unusedSimpArgs false
attribute [local go_sem ↓] ldM_is
set_option maxRecDepth 100000 in
set_option maxHeartbeats 8000000 in
theorem worM {w : World} {p : Option Addr} {n c : Nat} {X : List Cm} (hX : X.length = n) (hL : Lies kM w p X) {fv : Value} {f : Cm → Int} {ok : Cm → Prop} (hok : ∀ x ∈ X, ok x) (hfn : WnOK cvM ok fv f) (hn : n ≤ 30000000000000) :
    Calls Tryz.prog 134 #[.slice p n c, fv] w (WorOut w (X.map f)) := by
  obtain ⟨g, eg, rfl, hcall⟩ := hfn
  have hmk : (Instr.makeSlice 92 (.int .i64 (n : Int)) (.int .i64 (n : Int))).run Tryz.prog w = .ok (.slice (some ⟨w.heap.size, 0, none⟩) n n) (w.alloc (.cells (madeCells (Value.int .i64 0).cells (n * 1)) 2)) := run_mk (z := .int .i64 0) (s := 1) (b := 8) w 92 2 Tryz.underlying92 (by kernel_rfl) n (by omega) (by omega)
  have hlr : (X.map f).length = n := by rw [List.length_map, hX]
  obtain ⟨w0, hw0⟩ : ∃ w0, w0 = w.alloc (.cells (madeCells (Value.int .i64 0).cells (n * 1)) 2) := ⟨_, rfl⟩
  have A0 : NsAt w (X.map f) 0 w.heap.size w0 := by
    have := NsAt.begin w (X.map f) (by omega)
    rwa [hlr, ← hw0] at this
  rw [← hw0] at hmk
  have HA0 := hide A0; have HX := hide hX; have HL := hide hL; have HOK := hide hok; have HC := hide hcall; have HLR := hide hlr
  clear A0 hX hL hok hcall hlr hw0
  go_enter Tryz.func134, Tryz.ntmps134
  go_wp2_with fail
  go_loopw [13] (fun iv wr => ∃ (k : Nat) (K : Int), k ≤ n ∧ iv = .int .i64 K ∧ K = (k : Int) ∧ Hid (NsAt w (X.map f) k w.heap.size wr)) (fun iv _ => ((n : Int) - intOf iv).toNat)
  case atStart => exact ⟨0, 0, by omega, rfl, rfl, unhide HA0⟩
  case round =>
    clear hmk
    obtain ⟨wo, rfl⟩ : ∃ x, x = wr := ⟨wr, rfl⟩
    obtain ⟨k, K, hk, rfl, hK, HA⟩ := hrel
    by_cases hlt : k < n
    · have hI : K < (n : Int) := by omega
      have hK0 : 0 ≤ K := by omega
      have hKt : K.toNat = k := by omega
      have hkX : k < X.length := by have := unhide HX; omega
      obtain ⟨b, o, ep, hb, hld⟩ := ((unhide HL).below' (unhide HA).bel).ldM hkX
      obtain ⟨x, hx⟩ : ∃ x, x = X[k] := ⟨_, rfl⟩
      rw [← hx] at hld
      have hxm : x ∈ X := by rw [hx]; exact List.getElem_mem hkX
      have HTX : Hid ((X.map f)[k]? = some (f x)) := by show _ = _; rw [List.getElem?_map, List.getElem?_eq_getElem hkX, ← hx]; rfl
      subst ep
      obtain ⟨w1, hw1⟩ : ∃ w1, w1 = wo.alloc (obM x) := ⟨_, rfl⟩
      have b1 : Below wo.heap.size wo w1 := by rw [hw1]; exact bal (Below.refl _ _) _
      have hlv : (ldM (.pointer (some ⟨wo.heap.size, 0, none⟩))).run Tryz.prog w1 = .ok (cvM x) w1 := by rw [hw1]; exact ld_varM wo x (Below.refl _ _)
      have d := hide (unhide HC x w1 (unhide HOK x hxm))
      have HA1 := hide ((unhide HA).below b1)
      have HK := hide hK
      obtain ⟨vx, hvx⟩ : ∃ v, v = cvM x := ⟨_, rfl⟩
      rw [← hvx] at hlv d
      have hw1' : wo.alloc (.cells #[.string x.acc, .int .i64 x.deb, .int .i64 x.cre] 31) = w1 := by rw [hw1]; rfl
      unfold cvM at hld
      clear b1 hw1 hkX hlt hK hvx hxm hx HA
      go_wp2_with fail
      refine (unhide d).mono ?_
      rintro e w3 ⟨rfl, hb3⟩
      have hC3 := (unhide HA1).below hb3
      have st3 : w3.cell? ⟨w.heap.size, k, none⟩ ≠ none := by
        rw [hC3.own.cellAt k (by have := unhide HLR; omega), kN_flat, List.getElem?_map, List.getElem?_eq_getElem (by rw [midN_len _ _ (by have := unhide HLR; omega)]; have := unhide HLR; omega)]
        simp
      obtain ⟨u3, hu3⟩ := Option.ne_none_iff_exists'.1 st3
      have fr3 : w3.frozen? ⟨w.heap.size, k, none⟩ = false := hC3.own.frozenAt k
      have HS := hide (hC3.set (unhide HTX))
      obtain ⟨TX, hTX⟩ : ∃ v, v = f x := ⟨_, rfl⟩
      rw [← hTX] at HS ⊢
      clear hb3 hC3 st3 d hld hlv hTX hw1' HA1
      go_wp2_with fail
      exact ⟨⟨k + 1, K + 1, by have := unhide HK; omega, by go_num, by have := unhide HK; omega, unhide HS⟩, by have := unhide HK; simp [intOf]; omega⟩
    · have hI : ¬ K < (n : Int) := by omega
      have HF : Hid (WorOut w (X.map f) (.returned (.slice (some ⟨w.heap.size, 0, none⟩) n n)) wo) := by
        have h1 := unhide HA
        have ek : k = (X.map f).length := by have := unhide HLR; omega
        rw [ek] at h1
        exact ⟨_, by rw [unhide HLR], h1⟩
      clear HA hK
      go_wp2_with fail
      go_ret
      exact unhide HF
set_option maxRecDepth 100000 in
set_option maxHeartbeats 8000000 in
theorem totM {w : World} {p : Option Addr} {n c : Nat} {X : List Cm} (hX : X.length = n) (hL : Lies kM w p X) {fv : Value} {f : Cm → Int} {ok : Cm → Prop} (hok : ∀ x ∈ X, ok x) (hfn : WnOK cvM ok fv f) (hf : ∀ x ∈ X, -9223372036854775808 ≤ f x ∧ f x ≤ 9223372036854775807) (hn : n ≤ 30000000000000) :
    Calls Tryz.prog 40 #[.slice p n c, fv] w (TotOut w (X.map f)) := by
  have hlr : (X.map f).length = n := by rw [List.length_map, hX]
  have d := hide (worM (c := c) hX hL hok hfn hn)
  have HF : Hid (∀ k, k < n → -9223372036854775808 ≤ (X.map f).getD k 0 ∧ (X.map f).getD k 0 ≤ 9223372036854775807) := fun k hk => by
    rw [List.getD_eq_getElem?_getD, List.getElem?_map, List.getElem?_eq_getElem (by omega)]
    exact hf _ (List.getElem_mem _)
  obtain ⟨g, eg, rfl, hcall⟩ := hfn
  have HLR := hide hlr
  clear hlr hX hL hok hf hcall eg
  go_enter Tryz.func40, Tryz.ntmps40
  go_wp2_with fail
  refine (unhide d).mono ?_
  rintro e w1 ⟨g1, rfl, hN⟩
  have d2 := hide (msum_any (fun k => (X.map f).getD k 0) g1 0 n n (by omega) (unhide HF) w1 (fun k hk => hN.cells k (by rw [unhide HLR]; exact hk)))
  have HB := hide hN.bel
  rw [unhide HLR]
  clear hN d
  go_wp2_with fail
  refine (unhide d2).mono ?_
  rintro e w2 ⟨rfl, hw2⟩
  subst hw2
  have HS : Hid ((sumSpec (fun k => (X.map f).getD k 0) n) = sumL (X.map f)) := by show _ = _; unfold sumL; rw [unhide HLR]
  obtain ⟨s1, hs1⟩ : ∃ s, s = (sumSpec (fun k => (X.map f).getD k 0) n).1 := ⟨_, rfl⟩
  obtain ⟨s2, hs2⟩ : ∃ s, s = (sumSpec (fun k => (X.map f).getD k 0) n).2 := ⟨_, rfl⟩
  rw [← hs1, ← hs2]
  have HS1 := hide hs1; have HS2 := hide hs2
  clear hs1 hs2 d2
  go_wp2_with fail
  go_ret2
  refine ⟨?_, unhide HB⟩
  rw [unhide HS1, unhide HS2, unhide HS]
  rfl
/-- the first fault of a list -/
def fstM (f : Cm → Int) : List Cm → Int
  | [] => 0
  | x :: l => if f x = 0 then fstM f l else f x
theorem fstM_pre (f : Cm → Int) : ∀ (A B : List Cm), (∀ x ∈ A, f x = 0) → fstM f (A ++ B) = fstM f B
  | [], _, _ => rfl
  | a :: A, B, h => by
    rw [List.cons_append, fstM, if_pos (h a (by simp))]
    exact fstM_pre f A B (fun x hx => h x (by simp [hx]))
theorem fstM_all {f : Cm → Int} {A : List Cm} (h : ∀ x ∈ A, f x = 0) : fstM f A = 0 := by
  have := fstM_pre f A [] h
  rwa [List.append_nil] at this
theorem fstM_zero {f : Cm → Int} : ∀ {A : List Cm}, fstM f A = 0 → ∀ x ∈ A, f x = 0
  | a :: A, h, x, hx => by
    rw [fstM] at h
    by_cases ha : f a = 0
    · rw [if_pos ha] at h
      rcases List.mem_cons.1 hx with rfl | hx
      · exact ha
      · exact fstM_zero h x hx
    · rw [if_neg ha] at h
      exact absurd h ha
set_option maxRecDepth 100000 in
set_option maxHeartbeats 8000000 in
theorem fltM {w : World} {p : Option Addr} {n c : Nat} {X : List Cm} (hX : X.length = n) (hL : Lies kM w p X) {g : Nat} (eg : ∀ args w, (callFunc g args).run Tryz.prog w = .ok (.enter g args) w) {cap : Array Value} (hcap : cap = #[] ∨ ∃ v, cap = #[v]) {f : Cm → Int} {ok : Cm → Prop} (hok : ∀ x ∈ X, ok x)
    (hfn : ∀ x W, ok x → Below w.heap.size w W → Calls Tryz.prog g (#[cvM x] ++ cap) W fun e w' => e = .returned (.int .i64 (f x)) ∧ Below W.heap.size W w') (hn : n ≤ 30000000000000) :
    Calls Tryz.prog 38 #[.slice p n c, .func (.func g) #[] cap] w fun e w' => e = .returned (.int .i64 (fstM f X)) ∧ Below w.heap.size w w' := by
  have HX := hide hX; have HL := hide hL; have HOK := hide hok; have HFN := hide hfn
  clear hX hL hok hfn
  rcases hcap with rfl | ⟨cvv, rfl⟩
  · go_enter Tryz.func38, Tryz.ntmps38
    go_wp2_with fail
    go_loopw [10] (fun iv wr => ∃ (k : Nat) (K : Int), k ≤ n ∧ iv = .int .i64 K ∧ K = (k : Int) ∧ Hid ((∀ x ∈ X.take k, f x = 0) ∧ Below w.heap.size w wr)) (fun iv _ => ((n : Int) - intOf iv).toNat)
    case atStart => exact ⟨0, 0, by omega, rfl, rfl, (fun x hx => by simp at hx), Below.refl _ _⟩
    case round =>
      obtain ⟨wo, rfl⟩ : ∃ x, x = wr := ⟨wr, rfl⟩
      obtain ⟨k, K, hk, rfl, hK, HA⟩ := hrel
      by_cases hlt : k < n
      · have hI : K < (n : Int) := by omega
        have hK0 : 0 ≤ K := by omega
        have hKt : K.toNat = k := by omega
        have hkX : k < X.length := by have := unhide HX; omega
        obtain ⟨b, o, ep, hb, hld⟩ := ((unhide HL).below' (unhide HA).2).ldM hkX
        obtain ⟨x, hx⟩ : ∃ x, x = X[k] := ⟨_, rfl⟩
        rw [← hx] at hld
        have hxm : x ∈ X := by rw [hx]; exact List.getElem_mem hkX
        have HTK : Hid (X.take (k + 1) = X.take k ++ [x]) := by show _ = _; rw [List.take_succ_eq_append_getElem hkX, ← hx]
        have HDR : Hid (X = X.take k ++ x :: X.drop (k + 1)) := by have := (List.take_append_drop k X).symm; rw [List.drop_eq_getElem_cons hkX, ← hx] at this; exact this
        subst ep
        obtain ⟨w1, hw1⟩ : ∃ w1, w1 = wo.alloc (obM x) := ⟨_, rfl⟩
        have b1 : Below w.heap.size w w1 := (unhide HA).2.trans (by rw [hw1]; exact (bal (Below.refl _ _) _).mono (unhide HA).2.size)
        have hlv : (ldM (.pointer (some ⟨wo.heap.size, 0, none⟩))).run Tryz.prog w1 = .ok (cvM x) w1 := by rw [hw1]; exact ld_varM wo x (Below.refl _ _)
        have d : Calls Tryz.prog g #[cvM x] w1 fun e w' => e = .returned (.int .i64 (f x)) ∧ Below w1.heap.size w1 w' := unhide HFN x w1 (unhide HOK x hxm) b1
        have HK := hide hK; have HB1 := hide b1
        obtain ⟨vx, hvx⟩ : ∃ v, v = cvM x := ⟨_, rfl⟩
        obtain ⟨fx, hfx⟩ : ∃ z, z = f x := ⟨_, rfl⟩
        rw [← hvx] at hlv d
        rw [← hfx] at d
        have D := hide d
        have HFX := hide hfx
        have hw1' : wo.alloc (.cells #[.string x.acc, .int .i64 x.deb, .int .i64 x.cre] 31) = w1 := by rw [hw1]; rfl
        unfold cvM at hld
        have HPRE := hide (unhide HA).1
        clear b1 hw1 hkX hlt hK hvx hxm hx HA d hfx
        by_cases hz : fx = 0
        · subst hz
          go_wp2_with fail
          refine (unhide D).mono ?_
          rintro e w3 ⟨rfl, hb3⟩
          have HE : Hid ((∀ x ∈ X.take (k + 1), f x = 0) ∧ Below w.heap.size w w3) := by
            refine ⟨fun y hy => ?_, (unhide HB1).trans (hb3.mono (unhide HB1).size)⟩
            rw [unhide HTK, List.mem_append, List.mem_singleton] at hy
            rcases hy with hy | rfl
            · exact unhide HPRE y hy
            · exact (unhide HFX).symm
          clear hb3 hld hlv hw1'
          go_wp2_with fail
          exact ⟨⟨k + 1, K + 1, by have := unhide HK; omega, by go_num, by have := unhide HK; omega, unhide HE⟩, by have := unhide HK; simp [intOf]; omega⟩
        · have hzb : (fx == 0) = false := beq_eq_false_iff_ne.2 hz
          have hzn : (fx != 0) = true := by rw [bne_iff_ne]; exact hz
          go_wp2_with fail
          refine (unhide D).mono ?_
          rintro e w3 ⟨rfl, hb3⟩
          have HE : Hid (Ending.returned (.int .i64 fx) = .returned (.int .i64 (fstM f X)) ∧ Below w.heap.size w w3) := by
            refine ⟨?_, (unhide HB1).trans (hb3.mono (unhide HB1).size)⟩
            rw [unhide HDR, fstM_pre f _ _ (unhide HPRE), fstM, ← unhide HFX, if_neg hz]
          clear hb3 hld hlv hw1'
          go_wp2_with fail
          go_ret
          exact unhide HE
      · have hI : ¬ K < (n : Int) := by omega
        have HE : Hid (Ending.returned (.int .i64 0) = .returned (.int .i64 (fstM f X)) ∧ Below w.heap.size w wo) := by
          refine ⟨?_, (unhide HA).2⟩
          have h1 := (unhide HA).1
          rw [List.take_of_length_le (by have := unhide HX; omega)] at h1
          rw [fstM_all h1]
        clear HA hK
        go_wp2_with fail
        go_ret
        exact unhide HE
  · go_enter Tryz.func38, Tryz.ntmps38
    go_wp2_with fail
    go_loopw [10] (fun iv wr => ∃ (k : Nat) (K : Int), k ≤ n ∧ iv = .int .i64 K ∧ K = (k : Int) ∧ Hid ((∀ x ∈ X.take k, f x = 0) ∧ Below w.heap.size w wr)) (fun iv _ => ((n : Int) - intOf iv).toNat)
    case atStart => exact ⟨0, 0, by omega, rfl, rfl, (fun x hx => by simp at hx), Below.refl _ _⟩
    case round =>
      obtain ⟨wo, rfl⟩ : ∃ x, x = wr := ⟨wr, rfl⟩
      obtain ⟨k, K, hk, rfl, hK, HA⟩ := hrel
      by_cases hlt : k < n
      · have hI : K < (n : Int) := by omega
        have hK0 : 0 ≤ K := by omega
        have hKt : K.toNat = k := by omega
        have hkX : k < X.length := by have := unhide HX; omega
        obtain ⟨b, o, ep, hb, hld⟩ := ((unhide HL).below' (unhide HA).2).ldM hkX
        obtain ⟨x, hx⟩ : ∃ x, x = X[k] := ⟨_, rfl⟩
        rw [← hx] at hld
        have hxm : x ∈ X := by rw [hx]; exact List.getElem_mem hkX
        have HTK : Hid (X.take (k + 1) = X.take k ++ [x]) := by show _ = _; rw [List.take_succ_eq_append_getElem hkX, ← hx]
        have HDR : Hid (X = X.take k ++ x :: X.drop (k + 1)) := by have := (List.take_append_drop k X).symm; rw [List.drop_eq_getElem_cons hkX, ← hx] at this; exact this
        subst ep
        obtain ⟨w1, hw1⟩ : ∃ w1, w1 = wo.alloc (obM x) := ⟨_, rfl⟩
        have b1 : Below w.heap.size w w1 := (unhide HA).2.trans (by rw [hw1]; exact (bal (Below.refl _ _) _).mono (unhide HA).2.size)
        have hlv : (ldM (.pointer (some ⟨wo.heap.size, 0, none⟩))).run Tryz.prog w1 = .ok (cvM x) w1 := by rw [hw1]; exact ld_varM wo x (Below.refl _ _)
        have d : Calls Tryz.prog g #[cvM x, cvv] w1 fun e w' => e = .returned (.int .i64 (f x)) ∧ Below w1.heap.size w1 w' := unhide HFN x w1 (unhide HOK x hxm) b1
        have HK := hide hK; have HB1 := hide b1
        obtain ⟨vx, hvx⟩ : ∃ v, v = cvM x := ⟨_, rfl⟩
        obtain ⟨fx, hfx⟩ : ∃ z, z = f x := ⟨_, rfl⟩
        rw [← hvx] at hlv d
        rw [← hfx] at d
        have D := hide d
        have HFX := hide hfx
        have hw1' : wo.alloc (.cells #[.string x.acc, .int .i64 x.deb, .int .i64 x.cre] 31) = w1 := by rw [hw1]; rfl
        unfold cvM at hld
        have HPRE := hide (unhide HA).1
        clear b1 hw1 hkX hlt hK hvx hxm hx HA d hfx
        by_cases hz : fx = 0
        · subst hz
          go_wp2_with fail
          refine (unhide D).mono ?_
          rintro e w3 ⟨rfl, hb3⟩
          have HE : Hid ((∀ x ∈ X.take (k + 1), f x = 0) ∧ Below w.heap.size w w3) := by
            refine ⟨fun y hy => ?_, (unhide HB1).trans (hb3.mono (unhide HB1).size)⟩
            rw [unhide HTK, List.mem_append, List.mem_singleton] at hy
            rcases hy with hy | rfl
            · exact unhide HPRE y hy
            · exact (unhide HFX).symm
          clear hb3 hld hlv hw1'
          go_wp2_with fail
          exact ⟨⟨k + 1, K + 1, by have := unhide HK; omega, by go_num, by have := unhide HK; omega, unhide HE⟩, by have := unhide HK; simp [intOf]; omega⟩
        · have hzb : (fx == 0) = false := beq_eq_false_iff_ne.2 hz
          have hzn : (fx != 0) = true := by rw [bne_iff_ne]; exact hz
          go_wp2_with fail
          refine (unhide D).mono ?_
          rintro e w3 ⟨rfl, hb3⟩
          have HE : Hid (Ending.returned (.int .i64 fx) = .returned (.int .i64 (fstM f X)) ∧ Below w.heap.size w w3) := by
            refine ⟨?_, (unhide HB1).trans (hb3.mono (unhide HB1).size)⟩
            rw [unhide HDR, fstM_pre f _ _ (unhide HPRE), fstM, ← unhide HFX, if_neg hz]
          clear hb3 hld hlv hw1'
          go_wp2_with fail
          go_ret
          exact unhide HE
      · have hI : ¬ K < (n : Int) := by omega
        have HE : Hid (Ending.returned (.int .i64 0) = .returned (.int .i64 (fstM f X)) ∧ Below w.heap.size w wo) := by
          refine ⟨?_, (unhide HA).2⟩
          have h1 := (unhide HA).1
          rw [List.take_of_length_le (by have := unhide HX; omega)] at h1
          rw [fstM_all h1]
        clear HA hK
        go_wp2_with fail
        go_ret
        exact unhide HE
end Go.Proofs.YtcafhmlpmbkhkaaGreatDoor
/- The keeper's marks: text (156), behind (171), Book.id (95); quiet regions. -/
namespace Go.Proofs.YtcafhmlpmbkhkaaGreatDoor.Kg
open Go Go.ChangeShapes Go.WideShapes Go.ChangeAt Go.RowKit Go.Sort
set_option linter.unusedVariables false
theorem bal {w W : World} (h : Below w.heap.size w W) (o : Obj) : Below w.heap.size w (W.alloc o) := h.alloc h.size o
/-- the powers of ten lie in their variable -/
def Pw (w : World) : Prop := Lib.TabIs Tryz.prog w "internal/strconv.uint64pow10" .u64 Lib.pow10Tab
theorem pw_no : Tryz.prog.globalNamed "internal/strconv.uint64pow10" = some 4 := by kernel_rfl
theorem Pw.keep {w w' : World} (h : Pw w) (hb : w'.heap[4]? = w.heap[4]?) : Pw w' := by
  unfold Pw Lib.TabIs World.var? at h ⊢
  rw [pw_no] at h ⊢
  simp only [Option.bind_some] at h ⊢
  rw [hb]
  exact h
theorem Pw.lt {w : World} (h : Pw w) : 4 < w.heap.size := by
  unfold Pw Lib.TabIs World.var? at h
  rw [pw_no] at h
  simp only [Option.bind_some] at h
  rcases Nat.lt_or_ge 4 w.heap.size with h' | h'
  · exact h'
  · rw [Array.getElem?_eq_none h'] at h; cases h
theorem Pw.below {w w' : World} (h : Pw w) (hb : Below w.heap.size w w') : Pw w' := h.keep (hb.block 4 h.lt)
/-- a world some draws later, with some blocks behind it -/
def Grn (w w' : World) : Prop := ∃ q os, w' = grow (w.drewN q) os
theorem Grn.trans {a b c : World} (h : Grn a b) (k : Grn b c) : Grn a c := by
  obtain ⟨q, os, rfl⟩ := h
  obtain ⟨q', os', rfl⟩ := k
  exact ⟨q + q', os ++ os', by show grow (grow ((a.drewN q).drewN q') os) os' = _; rw [grow_grow, World.drewN_drewN]⟩
theorem Grn.refl (w : World) : Grn w w := ⟨0, #[], by rw [grow_empty]; rfl⟩
theorem Grn.below {w w' : World} (h : Grn w w') : Below w.heap.size w w' := by
  obtain ⟨q, os, rfl⟩ := h
  exact ⟨rfl, rfl, rfl, by simp, fun k hk => heap_grow_old (w.drewN q) os hk⟩
/-- a number's digits -/
def itS (n : Nat) : ByteArray := ⟨(Lib.itoa (n : Int)).toArray⟩
theorem itoa_any (n : Nat) (hn : n < 1000000) (w : World) (h : Pw w) : Calls Tryz.prog 167 #[.int .i64 (n : Int)] w fun e w' => e = .returned (.string (itS n)) ∧ Grn w w' :=
  (Tryz.strconv_Itoa (n : Int) (by omega) (by omega) w h)
theorem itS_size (n : Nat) (hn : n < 1000000) : (itS n).size ≤ 21 := by
  have h := Lib.itoa_length_le (n : Int) (by omega) (by omega)
  simpa [itS, ByteArray.size] using h
/-- a mark that is a text -/
def mkS (id k : Nat) : ByteArray := (⟨#[109, 97, 114, 107, 32]⟩ : ByteArray) ++ itS id ++ (⟨#[32]⟩ : ByteArray) ++ itS k
set_option maxHeartbeats 1000000 in
theorem text_any (id k : Nat) (hid : id < 1000000) (hk : k < 1000000) (w : World) (h : Pw w) : Calls Tryz.prog 133 #[.int .i64 (id : Int), .int .i64 (k : Int)] w fun e w' => e = .returned (.string (mkS id k)) ∧ Grn w w' := by
  have d1 := hide (itoa_any id hid w h)
  have HP := hide h
  have s1 := itS_size id hid
  have s2 := itS_size k hk
  have n1 : ¬ 9223372036854775807 < 5 + (itS id).size := by omega
  have n2 : ¬ 9223372036854775807 < 5 + (itS id).size + 1 := by omega
  have n3 : ¬ 9223372036854775807 < 5 + (itS id).size + 1 + (itS k).size := by omega
  clear h
  go_enter Tryz.func133, Tryz.ntmps133
  go_wp2_with fail
  refine (unhide d1).mono ?_
  rintro e w1 ⟨rfl, hg⟩
  have G1 := hide hg
  have d2 := hide (itoa_any k hk w1 ((unhide HP).below hg.below))
  clear hg
  go_wp2_with fail
  refine (unhide d2).mono ?_
  rintro e w2 ⟨rfl, hg⟩
  have G2 := hide hg
  clear hg
  go_wp2_with fail
  go_ret
  exact ⟨rfl, (unhide G1).trans (unhide G2)⟩
structure Bel (w : World) where
  W : World
  h : Below w.heap.size w W
@[reducible] def belInh (w : World) : Inhabited (Bel w) := ⟨⟨w, Below.refl _ _⟩⟩
attribute [instance] belInh
theorem wp_region_quiet_below {id : Nat} {Q : Exit → Act → World → Prop} {a : Act} {w : World} {l : List Oper} (hm : Tryz.prog.follows .mixedOrders = true) (hB : Region.lexB .any l.toArray = true)
    (h : wpQuiet Tryz.prog l.toArray (fun w' => ∃ p : Bel w, w' = p.W) (fun a' => ∀ w', (∃ p : Bel w, w' = p.W) → Q .normal a' w') l a) : (Code.region id l.toArray true).wp Tryz.prog Q a w :=
  wp_region_quiet (C := fun w' => ∃ p : Bel w, w' = p.W) hm hB ⟨⟨w.drew, below_drewN (Below.refl _ w) 1⟩, rfl⟩ (by simpa using h)
end Go.Proofs.YtcafhmlpmbkhkaaGreatDoor.Kg
