/- typing: each 46, 50, 53; the closures 51, 54. -/
import Derived.Test.YtfpbljfebjochaaGreatDoorTyI
namespace Go.Proofs.YtfpbljfebjochaaGreatDoor
open Go Go.Shelf Go.ChangeShapes Go.WideShapes Go.ChangeAt Go.RowKit Go.Maps
set_option linter.unusedVariables false
set_option maxRecDepth 100000
set_option maxHeartbeats 4000000
theorem eg47 (args : Array Value) (w : World) : (callFunc 137 args).run Tryz.prog w = .ok (.enter 137 args) w := by kernel_rfl
theorem eg24 (args : Array Value) (w : World) : (callFunc 140 args).run Tryz.prog w = .ok (.enter 140 args) w := by kernel_rfl
theorem eg51 (args : Array Value) (w : World) : (callFunc 142 args).run Tryz.prog w = .ok (.enter 142 args) w := by kernel_rfl
theorem eg54 (args : Array Value) (w : World) : (callFunc 145 args).run Tryz.prog w = .ok (.enter 145 args) w := by kernel_rfl
theorem flt_all {α : Type} {L : List α} {good : α → Bool} (h : ∀ x ∈ L, good x = true) : flt (L.all good) = .nilIface := by
  rw [List.all_eq_true.2 h]; rfl
theorem flt_bad {α : Type} {L : List α} {good : α → Bool} {x : α} (hx : x ∈ L) (h : good x = false) : flt (L.all good) = .iface 55 (.int .i64 140) := by
  have : L.all good = false := by rw [List.all_eq_false]; exact ⟨x, hx, by rw [h]; decide⟩
  rw [this]; rfl
theorem each46 (g : Nat) (eg : ∀ args w, (callFunc g args).run Tryz.prog w = .ok (.enter g args) w) (good : Int → Bool) {W : World} (hg : ∀ x, Calls Tryz.prog g #[.int .i64 x] W fun e w' => e = .returned (.bool (good x)) ∧ w' = W) {p : Option Addr} {n c : Nat} {L : List Int} (hn : L.length = n) (hL : Lies kI W p L) (hb : n ≤ 70000000000000) :
    Calls Tryz.prog 136 #[.slice p n c, .func (.func g) #[] #[]] W fun e w' => e = .returned (flt (L.all good)) ∧ w' = W := by
  have HG := hide hg; have HL := hide hL; have HN := hide hn
  clear hg hL hn
  go_enter Tryz.func136, Tryz.ntmps136
  go_wp2_with fail
  go_loop [9] (fun v9 => ∃ (k : Nat), v9 = .int .i64 k ∧ k ≤ n ∧ Hid (∀ x ∈ L.take k, good x = true)) (fun v9 => n - (intOf v9).toNat)
  case atStart => exact ⟨0, rfl, by omega, fun x hx => by simp at hx⟩
  case round =>
    obtain ⟨k, rfl, hk, hrel⟩ := hrel
    by_cases hlt : k < n
    · have hkl : k < L.length := by rw [unhide HN]; exact hlt
      obtain ⟨b, off, e1, hbl, hr⟩ := (unhide HL).2 k hkl
      obtain ⟨x, hx⟩ : ∃ x, x = L[k] := ⟨_, rfl⟩
      rw [← hx] at hr
      have hc := hr 0 (.int .i64 x) rfl
      simp only [kI, Nat.mul_one, Nat.add_zero] at hc
      have d := hide (unhide HG x)
      have hmem : Hid (x ∈ L) := by rw [hx]; exact List.getElem_mem hkl
      have htk : Hid (∀ y ∈ L.take (k + 1), y ∈ L.take k ∨ y = x) := fun y hy => by
        rw [List.take_succ_eq_append_getElem hkl, List.mem_append, List.mem_singleton, ← hx] at hy
        exact hy
      have hkn : (k : Int) < (n : Int) := by omega
      obtain ⟨gx, hgx⟩ : ∃ v, v = good x := ⟨_, rfl⟩
      rw [← hgx] at d
      have HX := hide hgx
      subst e1
      clear hr hx hgx hkl
      cases gx with
      | false =>
        go_wp2_with fail
        refine (unhide d).mono ?_
        rintro e w1 ⟨rfl, hw⟩
        rw [hw]; clear hw w1
        go_wp2_with fail
        go_ret
        exact ⟨by rw [flt_bad (unhide hmem) (unhide HX).symm]; rfl, rfl⟩
      | true =>
        go_wp2_with fail
        refine (unhide d).mono ?_
        rintro e w1 ⟨rfl, hw⟩
        rw [hw]; clear hw w1
        go_wp2_with fail
        refine ⟨⟨k + 1, by go_num, by omega, fun y hy => ?_⟩, by simp [intOf]; omega⟩
        rcases unhide htk y hy with h | h
        · exact unhide hrel y h
        · rw [h]; exact (unhide HX).symm
    · have hkn : k = n := by omega
      subst hkn
      go_wp2_with fail
      go_ret
      refine ⟨?_, rfl⟩
      rw [flt_all (fun x hx => unhide hrel x (by rw [List.take_of_length_le (by rw [unhide HN]; exact Nat.le_refl _)]; exact hx))]
      rfl

def ld45 (x : Value) : Sem Value := Instr.loadAt 75 x
theorem ld45_is (x : Value) : Instr.loadAt 75 x = ld45 x := rfl
theorem size45 : (Tryz.prog.info? 75).map (·.size) = some 2 := by kernel_rfl
theorem run_ld45 {w : World} {b o : Nat} {x : Int × Int} (h : w.rangeAt b o (kG.enc x)) : (ld45 (.pointer (some ⟨b, o, none⟩))).run Tryz.prog w = .ok (.agg #[.int .i64 x.1, .int .i64 x.2]) w :=
  run_loadAt_mid (P := Tryz.prog) w b o 75 (kG.enc x) _ h Tryz.underlying75 rfl size45
section
attribute [local go_sem ↓] ld45_is
theorem each50 (g : Nat) (eg : ∀ args w, (callFunc g args).run Tryz.prog w = .ok (.enter g args) w) (good : Int × Int → Bool) {W : World} (cv : Value) (hg : ∀ x X, Below W.heap.size W X → Calls Tryz.prog g #[.agg #[.int .i64 x.1, .int .i64 x.2], cv] X fun e w' => e = .returned (.bool (good x)) ∧ Below X.heap.size X w') {p : Option Addr} {n c : Nat} {L : List (Int × Int)} (hn : L.length = n) (hL : Lies kG W p L) (hb : n ≤ 70000000000000) :
    Calls Tryz.prog 141 #[.slice p n c, .func (.func g) #[] #[cv]] W fun e w' => e = .returned (flt (L.all good)) ∧ Below W.heap.size W w' := by
  have HG := hide hg; have HL := hide hL; have HN := hide hn
  clear hg hL hn
  go_enter Tryz.func141, Tryz.ntmps141
  go_wp2_with fail
  go_loopw [9] (fun v9 wr => ∃ (k : Nat), v9 = .int .i64 k ∧ k ≤ n ∧ Hid (Below W.heap.size W wr ∧ ∀ x ∈ L.take k, good x = true)) (fun v9 _ => n - (intOf v9).toNat)
  case atStart => exact ⟨0, rfl, by omega, Below.refl _ _, fun x hx => by simp at hx⟩
  case round =>
    obtain ⟨k, rfl, hk, hrel⟩ := hrel
    by_cases hlt : k < n
    · have hkl : k < L.length := by rw [unhide HN]; exact hlt
      obtain ⟨b, off, e1, hbl, hr⟩ := (unhide HL).2 k hkl
      obtain ⟨x, hx⟩ : ∃ x, x = L[k] := ⟨_, rfl⟩
      rw [← hx] at hr
      have hB := (unhide hrel).1
      have l1 := run_ld45 (w := wr) (b := b) (o := off + k * 2) (x := x) (fun j u hu => (hB.cell (p := ⟨b, off + k * 2 + j, none⟩) hbl).trans (hr j u hu))
      have l2 := run_ld45 (w := wr.alloc (.cells (kG.enc x).toArray 75)) (b := wr.heap.size) (o := 0) (x := x) (new_range wr (kG.enc x) 75)
      have d := hide (unhide HG x (wr.alloc (.cells (kG.enc x).toArray 75)) (hB.alloc hB.size _))
      have HB2 : Hid (∀ X, Below (wr.alloc (.cells (kG.enc x).toArray 75)).heap.size (wr.alloc (.cells (kG.enc x).toArray 75)) X → Below W.heap.size W X) := fun X h => (hB.alloc hB.size _).trans (h.mono (Nat.le_trans hB.size (by simp)))
      have hmem : Hid (x ∈ L) := by rw [hx]; exact List.getElem_mem hkl
      have htk : Hid (∀ y ∈ L.take (k + 1), y ∈ L.take k ∨ y = x) := fun y hy => by
        rw [List.take_succ_eq_append_getElem hkl, List.mem_append, List.mem_singleton, ← hx] at hy
        exact hy
      have hkn : (k : Int) < (n : Int) := by omega
      obtain ⟨gx, hgx⟩ : ∃ v, v = good x := ⟨_, rfl⟩
      rw [← hgx] at d
      have HX := hide hgx
      obtain ⟨x1, x2⟩ := x
      simp only [kG] at l1 l2 d HB2
      subst e1
      clear hr hx hgx hkl hB
      cases gx with
      | false =>
        go_wp2_with fail
        refine (unhide d).mono ?_
        rintro e w1 ⟨rfl, hw⟩
        have HW := hide (unhide HB2 _ hw)
        clear hw
        go_wp2_with fail
        go_ret
        exact ⟨by rw [flt_bad (unhide hmem) (unhide HX).symm]; rfl, unhide HW⟩
      | true =>
        go_wp2_with fail
        refine (unhide d).mono ?_
        rintro e w1 ⟨rfl, hw⟩
        have HW := hide (unhide HB2 _ hw)
        clear hw
        go_wp2_with fail
        refine ⟨⟨k + 1, by go_num, by omega, unhide HW, fun y hy => ?_⟩, by simp [intOf]; omega⟩
        rcases unhide htk y hy with h | h
        · exact (unhide hrel).2 y h
        · rw [h]; exact (unhide HX).symm
    · have hkn : k = n := by omega
      subst hkn
      go_wp2_with fail
      go_ret
      refine ⟨?_, (unhide hrel).1⟩
      rw [flt_all (fun x hx => (unhide hrel).2 x (by rw [List.take_of_length_le (by rw [unhide HN]; exact Nat.le_refl _)]; exact hx))]
      rfl
end

def ld74 (x : Value) : Sem Value := Instr.loadAt 77 x
theorem ld74_is (x : Value) : Instr.loadAt 77 x = ld74 x := rfl
theorem size74 : (Tryz.prog.info? 77).map (·.size) = some 2 := by kernel_rfl
theorem run_ld74 {w : World} {b o : Nat} {x : Int × Bool} (h : w.rangeAt b o (kO.enc x)) : (ld74 (.pointer (some ⟨b, o, none⟩))).run Tryz.prog w = .ok (.agg #[.int .i64 x.1, .bool x.2]) w :=
  run_loadAt_mid (P := Tryz.prog) w b o 77 (kO.enc x) _ h Tryz.underlying77 rfl size74
section
attribute [local go_sem ↓] ld74_is
theorem each53 (g : Nat) (eg : ∀ args w, (callFunc g args).run Tryz.prog w = .ok (.enter g args) w) (good : Int × Bool → Bool) {W : World} (cv : Value) (hg : ∀ x X, Below W.heap.size W X → Calls Tryz.prog g #[.agg #[.int .i64 x.1, .bool x.2], cv] X fun e w' => e = .returned (.bool (good x)) ∧ Below X.heap.size X w') {p : Option Addr} {n c : Nat} {L : List (Int × Bool)} (hn : L.length = n) (hL : Lies kO W p L) (hb : n ≤ 70000000000000) :
    Calls Tryz.prog 144 #[.slice p n c, .func (.func g) #[] #[cv]] W fun e w' => e = .returned (flt (L.all good)) ∧ Below W.heap.size W w' := by
  have HG := hide hg; have HL := hide hL; have HN := hide hn
  clear hg hL hn
  go_enter Tryz.func144, Tryz.ntmps144
  go_wp2_with fail
  go_loopw [9] (fun v9 wr => ∃ (k : Nat), v9 = .int .i64 k ∧ k ≤ n ∧ Hid (Below W.heap.size W wr ∧ ∀ x ∈ L.take k, good x = true)) (fun v9 _ => n - (intOf v9).toNat)
  case atStart => exact ⟨0, rfl, by omega, Below.refl _ _, fun x hx => by simp at hx⟩
  case round =>
    obtain ⟨k, rfl, hk, hrel⟩ := hrel
    by_cases hlt : k < n
    · have hkl : k < L.length := by rw [unhide HN]; exact hlt
      obtain ⟨b, off, e1, hbl, hr⟩ := (unhide HL).2 k hkl
      obtain ⟨x, hx⟩ : ∃ x, x = L[k] := ⟨_, rfl⟩
      rw [← hx] at hr
      have hB := (unhide hrel).1
      have l1 := run_ld74 (w := wr) (b := b) (o := off + k * 2) (x := x) (fun j u hu => (hB.cell (p := ⟨b, off + k * 2 + j, none⟩) hbl).trans (hr j u hu))
      have l2 := run_ld74 (w := wr.alloc (.cells (kO.enc x).toArray 77)) (b := wr.heap.size) (o := 0) (x := x) (new_range wr (kO.enc x) 77)
      have d := hide (unhide HG x (wr.alloc (.cells (kO.enc x).toArray 77)) (hB.alloc hB.size _))
      have HB2 : Hid (∀ X, Below (wr.alloc (.cells (kO.enc x).toArray 77)).heap.size (wr.alloc (.cells (kO.enc x).toArray 77)) X → Below W.heap.size W X) := fun X h => (hB.alloc hB.size _).trans (h.mono (Nat.le_trans hB.size (by simp)))
      have hmem : Hid (x ∈ L) := by rw [hx]; exact List.getElem_mem hkl
      have htk : Hid (∀ y ∈ L.take (k + 1), y ∈ L.take k ∨ y = x) := fun y hy => by
        rw [List.take_succ_eq_append_getElem hkl, List.mem_append, List.mem_singleton, ← hx] at hy
        exact hy
      have hkn : (k : Int) < (n : Int) := by omega
      obtain ⟨gx, hgx⟩ : ∃ v, v = good x := ⟨_, rfl⟩
      rw [← hgx] at d
      have HX := hide hgx
      obtain ⟨x1, x2⟩ := x
      simp only [kO] at l1 l2 d HB2
      subst e1
      clear hr hx hgx hkl hB
      cases gx with
      | false =>
        go_wp2_with fail
        refine (unhide d).mono ?_
        rintro e w1 ⟨rfl, hw⟩
        have HW := hide (unhide HB2 _ hw)
        clear hw
        go_wp2_with fail
        go_ret
        exact ⟨by rw [flt_bad (unhide hmem) (unhide HX).symm]; rfl, unhide HW⟩
      | true =>
        go_wp2_with fail
        refine (unhide d).mono ?_
        rintro e w1 ⟨rfl, hw⟩
        have HW := hide (unhide HB2 _ hw)
        clear hw
        go_wp2_with fail
        refine ⟨⟨k + 1, by go_num, by omega, unhide HW, fun y hy => ?_⟩, by simp [intOf]; omega⟩
        rcases unhide htk y hy with h | h
        · exact (unhide hrel).2 y h
        · rw [h]; exact (unhide HX).symm
    · have hkn : k = n := by omega
      subst hkn
      go_wp2_with fail
      go_ret
      refine ⟨?_, (unhide hrel).1⟩
      rw [flt_all (fun x hx => (unhide hrel).2 x (by rw [List.take_of_length_le (by rw [unhide HN]; exact Nat.le_refl _)]; exact hx))]
      rfl
end

theorem show51 {W : World} {b : Nat} {p : Option Addr} {n c : Nat} {T : List Int} (hn : T.length = n) (hT : Lies kI W p T) (hbl : b < W.heap.size) (hc : W.cell? ⟨b, 0, none⟩ = some (.slice p n c)) (x : Int × Int) : Calls Tryz.prog 142 #[.agg #[.int .i64 x.1, .int .i64 x.2], .pointer (some ⟨b, 0, none⟩)] W fun e w' => e = .returned (.bool (shwS x T)) ∧ Below W.heap.size W w' := by
  have d := hide (fun o => isShown_any (c := c) hn (hT.below (Below.a1 W o)) x)
  have hc2 : ∀ o, (W.alloc o).cell? ⟨b, 0, none⟩ = some (.slice p n c) := fun o => ((Below.a1 W o).cell hbl).trans hc
  obtain ⟨x1, x2⟩ := x
  obtain ⟨o, ho⟩ : ∃ o : Obj, o = .cells #[.int .i64 x1, .int .i64 x2] 75 := ⟨_, rfl⟩
  have HB : Hid (∀ X, Below (W.alloc o).heap.size (W.alloc o) X → Below W.heap.size W X) := fun X h => (Below.a1 W o).trans (h.mono (by simp))
  have hne : ¬ b = W.heap.size := by omega
  rw [ho] at HB
  simp only at d ⊢
  clear hT hn ho o
  go_enter Tryz.func142, Tryz.ntmps142
  go_wp2_with fail
  refine (unhide d _).mono ?_
  rintro e w1 ⟨rfl, hw⟩
  have HW := hide (unhide HB _ hw)
  clear hw
  go_wp2_with fail
  go_ret
  exact ⟨rfl, unhide HW⟩
/-- is an order's column there? -/
def ordS (wd : Int) (x : Int × Bool) : Bool := decide (0 ≤ x.1) && decide (x.1 < wd)
theorem ord54 {W : World} {b : Nat} {wd : Int} (hbl : b < W.heap.size) (hc : W.cell? ⟨b, 0, none⟩ = some (.int .i64 wd)) (x : Int × Bool) : Calls Tryz.prog 145 #[.agg #[.int .i64 x.1, .bool x.2], .pointer (some ⟨b, 0, none⟩)] W fun e w' => e = .returned (.bool (ordS wd x)) ∧ Below W.heap.size W w' := by
  obtain ⟨x1, x2⟩ := x
  have hc2 : ∀ o, (W.alloc o).cell? ⟨b, 0, none⟩ = some (.int .i64 wd) := fun o => ((Below.a1 W o).cell hbl).trans hc
  have HB : Hid (∀ o, Below W.heap.size W (W.alloc o)) := Below.a1 W
  have hne : ¬ b = W.heap.size := by omega
  unfold ordS
  simp only
  by_cases h1 : x1 ≥ 0
  · have e1 : decide (0 ≤ x1) = true := decide_eq_true h1
    rw [e1, Bool.true_and]
    go_enter Tryz.func145, Tryz.ntmps145
    go_wp2_with fail
    go_ret
    exact ⟨rfl, unhide HB _⟩
  · have e1 : decide (0 ≤ x1) = false := decide_eq_false h1
    rw [e1, Bool.false_and]
    go_enter Tryz.func145, Tryz.ntmps145
    go_wp2_with fail
    go_ret
    exact ⟨rfl, unhide HB _⟩
end Go.Proofs.YtfpbljfebjochaaGreatDoor
