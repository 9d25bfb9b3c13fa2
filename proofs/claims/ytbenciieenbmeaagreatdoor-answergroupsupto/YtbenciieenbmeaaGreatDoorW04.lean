import Derived.Test.YtbenciieenbmeaaGreatDoorW03
import Derived.LaidEql
import Derived.Stop.Asserts
import Derived.RowKitTokens
/- typing: each 46, 50, 53; the closures 51, 54. -/
namespace Go.Proofs.YtbenciieenbmeaaGreatDoor
open Go Go.Shelf Go.ChangeShapes Go.WideShapes Go.ChangeAt Go.RowKit Go.Maps
set_option linter.unusedVariables false
set_option maxRecDepth 100000
set_option maxHeartbeats 4000000
theorem eg47 (args : Array Value) (w : World) : (callFunc 66 args).run Tryz.prog w = .ok (.enter 66 args) w := by kernel_rfl
theorem eg24 (args : Array Value) (w : World) : (callFunc 69 args).run Tryz.prog w = .ok (.enter 69 args) w := by kernel_rfl
theorem eg51 (args : Array Value) (w : World) : (callFunc 71 args).run Tryz.prog w = .ok (.enter 71 args) w := by kernel_rfl
theorem eg54 (args : Array Value) (w : World) : (callFunc 74 args).run Tryz.prog w = .ok (.enter 74 args) w := by kernel_rfl
theorem flt_all {α : Type} {L : List α} {good : α → Bool} (h : ∀ x ∈ L, good x = true) : flt (L.all good) = .nilIface := by
  rw [List.all_eq_true.2 h]; rfl
theorem flt_bad {α : Type} {L : List α} {good : α → Bool} {x : α} (hx : x ∈ L) (h : good x = false) : flt (L.all good) = .iface 35 (.int .i64 140) := by
  have : L.all good = false := by rw [List.all_eq_false]; exact ⟨x, hx, by rw [h]; decide⟩
  rw [this]; rfl
theorem each46 (g : Nat) (eg : ∀ args w, (callFunc g args).run Tryz.prog w = .ok (.enter g args) w) (good : Int → Bool) {W : World} (hg : ∀ x, Calls Tryz.prog g #[.int .i64 x] W fun e w' => e = .returned (.bool (good x)) ∧ w' = W) {p : Option Addr} {n c : Nat} {L : List Int} (hn : L.length = n) (hL : Lies kI W p L) (hb : n ≤ 70000000000000) :
    Calls Tryz.prog 65 #[.slice p n c, .func (.func g) #[] #[]] W fun e w' => e = .returned (flt (L.all good)) ∧ w' = W := by
  have HG := hide hg; have HL := hide hL; have HN := hide hn
  clear hg hL hn
  go_enter Tryz.func65, Tryz.ntmps65
  go_wp2_with fail
  go_loop [9] (fun v9 => ∃ (k : Nat), v9 = .int .i64 k ∧ k ≤ n ∧ Hid (∀ x ∈ L.take k, good x = true)) (fun v9 => n - (intOf v9).toNat)
  case atStart => exact ⟨0, rfl, by omega, fun x hx => by simp at hx⟩
  case round =>
    obtain ⟨k, rfl, hk, hrel⟩ := hrel
    by_cases hlt : k < n
    · have hkl : k < L.length := by rw [unhide HN]; exact hlt
      obtain ⟨b, off, e1, hbl, hr⟩ := (unhide HL).2 k hkl
      obtain ⟨x, hx⟩ : ∃ x, x = L[k] := ⟨_, rfl⟩
      rw [← hx] at hr
      have hc := hr 0 (.int .i64 x) rfl
      simp only [kI, Nat.mul_one, Nat.add_zero] at hc
      have d := hide (unhide HG x)
      have hmem : Hid (x ∈ L) := by rw [hx]; exact List.getElem_mem hkl
      have htk : Hid (∀ y ∈ L.take (k + 1), y ∈ L.take k ∨ y = x) := fun y hy => by
        rw [List.take_succ_eq_append_getElem hkl, List.mem_append, List.mem_singleton, ← hx] at hy
        exact hy
      have hkn : (k : Int) < (n : Int) := by omega
      obtain ⟨gx, hgx⟩ : ∃ v, v = good x := ⟨_, rfl⟩
      rw [← hgx] at d
      have HX := hide hgx
      subst e1
      clear hr hx hgx hkl
      cases gx with
      | false =>
        go_wp2_with fail
        refine (unhide d).mono ?_
        rintro e w1 ⟨rfl, hw⟩
        rw [hw]; clear hw w1
        go_wp2_with fail
        go_ret
        exact ⟨by rw [flt_bad (unhide hmem) (unhide HX).symm]; rfl, rfl⟩
      | true =>
        go_wp2_with fail
        refine (unhide d).mono ?_
        rintro e w1 ⟨rfl, hw⟩
        rw [hw]; clear hw w1
        go_wp2_with fail
        refine ⟨⟨k + 1, by go_num, by omega, fun y hy => ?_⟩, by simp [intOf]; omega⟩
        rcases unhide htk y hy with h | h
        · exact unhide hrel y h
        · rw [h]; exact (unhide HX).symm
    · have hkn : k = n := by omega
      subst hkn
      go_wp2_with fail
      go_ret
      refine ⟨?_, rfl⟩
      rw [flt_all (fun x hx => unhide hrel x (by rw [List.take_of_length_le (by rw [unhide HN]; exact Nat.le_refl _)]; exact hx))]
      rfl

def ld45 (x : Value) : Sem Value := Instr.loadAt 56 x
theorem ld45_is (x : Value) : Instr.loadAt 56 x = ld45 x := rfl
theorem size45 : (Tryz.prog.info? 56).map (·.size) = some 2 := by kernel_rfl
theorem run_ld45 {w : World} {b o : Nat} {x : Int × Int} (h : w.rangeAt b o (kG.enc x)) : (ld45 (.pointer (some ⟨b, o, none⟩))).run Tryz.prog w = .ok (.agg #[.int .i64 x.1, .int .i64 x.2]) w :=
  run_loadAt_mid (P := Tryz.prog) w b o 56 (kG.enc x) _ h Tryz.underlying56 rfl size45
section
attribute [local go_sem ↓] ld45_is
theorem each50 (g : Nat) (eg : ∀ args w, (callFunc g args).run Tryz.prog w = .ok (.enter g args) w) (good : Int × Int → Bool) {W : World} (cv : Value) (hg : ∀ x X, Below W.heap.size W X → Calls Tryz.prog g #[.agg #[.int .i64 x.1, .int .i64 x.2], cv] X fun e w' => e = .returned (.bool (good x)) ∧ Below X.heap.size X w') {p : Option Addr} {n c : Nat} {L : List (Int × Int)} (hn : L.length = n) (hL : Lies kG W p L) (hb : n ≤ 70000000000000) :
    Calls Tryz.prog 70 #[.slice p n c, .func (.func g) #[] #[cv]] W fun e w' => e = .returned (flt (L.all good)) ∧ Below W.heap.size W w' := by
  have HG := hide hg; have HL := hide hL; have HN := hide hn
  clear hg hL hn
  go_enter Tryz.func70, Tryz.ntmps70
  go_wp2_with fail
  go_loopw [9] (fun v9 wr => ∃ (k : Nat), v9 = .int .i64 k ∧ k ≤ n ∧ Hid (Below W.heap.size W wr ∧ ∀ x ∈ L.take k, good x = true)) (fun v9 _ => n - (intOf v9).toNat)
  case atStart => exact ⟨0, rfl, by omega, Below.refl _ _, fun x hx => by simp at hx⟩
  case round =>
    obtain ⟨k, rfl, hk, hrel⟩ := hrel
    by_cases hlt : k < n
    · have hkl : k < L.length := by rw [unhide HN]; exact hlt
      obtain ⟨b, off, e1, hbl, hr⟩ := (unhide HL).2 k hkl
      obtain ⟨x, hx⟩ : ∃ x, x = L[k] := ⟨_, rfl⟩
      rw [← hx] at hr
      have hB := (unhide hrel).1
      have l1 := run_ld45 (w := wr) (b := b) (o := off + k * 2) (x := x) (fun j u hu => (hB.cell (p := ⟨b, off + k * 2 + j, none⟩) hbl).trans (hr j u hu))
      have l2 := run_ld45 (w := wr.alloc (.cells (kG.enc x).toArray 56)) (b := wr.heap.size) (o := 0) (x := x) (new_range wr (kG.enc x) 56)
      have d := hide (unhide HG x (wr.alloc (.cells (kG.enc x).toArray 56)) (hB.alloc hB.size _))
      have HB2 : Hid (∀ X, Below (wr.alloc (.cells (kG.enc x).toArray 56)).heap.size (wr.alloc (.cells (kG.enc x).toArray 56)) X → Below W.heap.size W X) := fun X h => (hB.alloc hB.size _).trans (h.mono (Nat.le_trans hB.size (by simp)))
      have hmem : Hid (x ∈ L) := by rw [hx]; exact List.getElem_mem hkl
      have htk : Hid (∀ y ∈ L.take (k + 1), y ∈ L.take k ∨ y = x) := fun y hy => by
        rw [List.take_succ_eq_append_getElem hkl, List.mem_append, List.mem_singleton, ← hx] at hy
        exact hy
      have hkn : (k : Int) < (n : Int) := by omega
      obtain ⟨gx, hgx⟩ : ∃ v, v = good x := ⟨_, rfl⟩
      rw [← hgx] at d
      have HX := hide hgx
      obtain ⟨x1, x2⟩ := x
      simp only [kG] at l1 l2 d HB2
      subst e1
      clear hr hx hgx hkl hB
      cases gx with
      | false =>
        go_wp2_with fail
        refine (unhide d).mono ?_
        rintro e w1 ⟨rfl, hw⟩
        have HW := hide (unhide HB2 _ hw)
        clear hw
        go_wp2_with fail
        go_ret
        exact ⟨by rw [flt_bad (unhide hmem) (unhide HX).symm]; rfl, unhide HW⟩
      | true =>
        go_wp2_with fail
        refine (unhide d).mono ?_
        rintro e w1 ⟨rfl, hw⟩
        have HW := hide (unhide HB2 _ hw)
        clear hw
        go_wp2_with fail
        refine ⟨⟨k + 1, by go_num, by omega, unhide HW, fun y hy => ?_⟩, by simp [intOf]; omega⟩
        rcases unhide htk y hy with h | h
        · exact (unhide hrel).2 y h
        · rw [h]; exact (unhide HX).symm
    · have hkn : k = n := by omega
      subst hkn
      go_wp2_with fail
      go_ret
      refine ⟨?_, (unhide hrel).1⟩
      rw [flt_all (fun x hx => (unhide hrel).2 x (by rw [List.take_of_length_le (by rw [unhide HN]; exact Nat.le_refl _)]; exact hx))]
      rfl
end

def ld74 (x : Value) : Sem Value := Instr.loadAt 70 x
theorem ld74_is (x : Value) : Instr.loadAt 70 x = ld74 x := rfl
theorem size74 : (Tryz.prog.info? 70).map (·.size) = some 2 := by kernel_rfl
theorem run_ld74 {w : World} {b o : Nat} {x : Int × Bool} (h : w.rangeAt b o (kO.enc x)) : (ld74 (.pointer (some ⟨b, o, none⟩))).run Tryz.prog w = .ok (.agg #[.int .i64 x.1, .bool x.2]) w :=
  run_loadAt_mid (P := Tryz.prog) w b o 70 (kO.enc x) _ h Tryz.underlying70 rfl size74
section
attribute [local go_sem ↓] ld74_is
theorem each53 (g : Nat) (eg : ∀ args w, (callFunc g args).run Tryz.prog w = .ok (.enter g args) w) (good : Int × Bool → Bool) {W : World} (cv : Value) (hg : ∀ x X, Below W.heap.size W X → Calls Tryz.prog g #[.agg #[.int .i64 x.1, .bool x.2], cv] X fun e w' => e = .returned (.bool (good x)) ∧ Below X.heap.size X w') {p : Option Addr} {n c : Nat} {L : List (Int × Bool)} (hn : L.length = n) (hL : Lies kO W p L) (hb : n ≤ 70000000000000) :
    Calls Tryz.prog 73 #[.slice p n c, .func (.func g) #[] #[cv]] W fun e w' => e = .returned (flt (L.all good)) ∧ Below W.heap.size W w' := by
  have HG := hide hg; have HL := hide hL; have HN := hide hn
  clear hg hL hn
  go_enter Tryz.func73, Tryz.ntmps73
  go_wp2_with fail
  go_loopw [9] (fun v9 wr => ∃ (k : Nat), v9 = .int .i64 k ∧ k ≤ n ∧ Hid (Below W.heap.size W wr ∧ ∀ x ∈ L.take k, good x = true)) (fun v9 _ => n - (intOf v9).toNat)
  case atStart => exact ⟨0, rfl, by omega, Below.refl _ _, fun x hx => by simp at hx⟩
  case round =>
    obtain ⟨k, rfl, hk, hrel⟩ := hrel
    by_cases hlt : k < n
    · have hkl : k < L.length := by rw [unhide HN]; exact hlt
      obtain ⟨b, off, e1, hbl, hr⟩ := (unhide HL).2 k hkl
      obtain ⟨x, hx⟩ : ∃ x, x = L[k] := ⟨_, rfl⟩
      rw [← hx] at hr
      have hB := (unhide hrel).1
      have l1 := run_ld74 (w := wr) (b := b) (o := off + k * 2) (x := x) (fun j u hu => (hB.cell (p := ⟨b, off + k * 2 + j, none⟩) hbl).trans (hr j u hu))
      have l2 := run_ld74 (w := wr.alloc (.cells (kO.enc x).toArray 70)) (b := wr.heap.size) (o := 0) (x := x) (new_range wr (kO.enc x) 70)
      have d := hide (unhide HG x (wr.alloc (.cells (kO.enc x).toArray 70)) (hB.alloc hB.size _))
      have HB2 : Hid (∀ X, Below (wr.alloc (.cells (kO.enc x).toArray 70)).heap.size (wr.alloc (.cells (kO.enc x).toArray 70)) X → Below W.heap.size W X) := fun X h => (hB.alloc hB.size _).trans (h.mono (Nat.le_trans hB.size (by simp)))
      have hmem : Hid (x ∈ L) := by rw [hx]; exact List.getElem_mem hkl
      have htk : Hid (∀ y ∈ L.take (k + 1), y ∈ L.take k ∨ y = x) := fun y hy => by
        rw [List.take_succ_eq_append_getElem hkl, List.mem_append, List.mem_singleton, ← hx] at hy
        exact hy
      have hkn : (k : Int) < (n : Int) := by omega
      obtain ⟨gx, hgx⟩ : ∃ v, v = good x := ⟨_, rfl⟩
      rw [← hgx] at d
      have HX := hide hgx
      obtain ⟨x1, x2⟩ := x
      simp only [kO] at l1 l2 d HB2
      subst e1
      clear hr hx hgx hkl hB
      cases gx with
      | false =>
        go_wp2_with fail
        refine (unhide d).mono ?_
        rintro e w1 ⟨rfl, hw⟩
        have HW := hide (unhide HB2 _ hw)
        clear hw
        go_wp2_with fail
        go_ret
        exact ⟨by rw [flt_bad (unhide hmem) (unhide HX).symm]; rfl, unhide HW⟩
      | true =>
        go_wp2_with fail
        refine (unhide d).mono ?_
        rintro e w1 ⟨rfl, hw⟩
        have HW := hide (unhide HB2 _ hw)
        clear hw
        go_wp2_with fail
        refine ⟨⟨k + 1, by go_num, by omega, unhide HW, fun y hy => ?_⟩, by simp [intOf]; omega⟩
        rcases unhide htk y hy with h | h
        · exact (unhide hrel).2 y h
        · rw [h]; exact (unhide HX).symm
    · have hkn : k = n := by omega
      subst hkn
      go_wp2_with fail
      go_ret
      refine ⟨?_, (unhide hrel).1⟩
      rw [flt_all (fun x hx => (unhide hrel).2 x (by rw [List.take_of_length_le (by rw [unhide HN]; exact Nat.le_refl _)]; exact hx))]
      rfl
end

theorem show51 {W : World} {b : Nat} {p : Option Addr} {n c : Nat} {T : List Int} (hn : T.length = n) (hT : Lies kI W p T) (hbl : b < W.heap.size) (hc : W.cell? ⟨b, 0, none⟩ = some (.slice p n c)) (x : Int × Int) : Calls Tryz.prog 71 #[.agg #[.int .i64 x.1, .int .i64 x.2], .pointer (some ⟨b, 0, none⟩)] W fun e w' => e = .returned (.bool (shwS x T)) ∧ Below W.heap.size W w' := by
  have d := hide (fun o => isShown_any (c := c) hn (hT.below (Below.a1 W o)) x)
  have hc2 : ∀ o, (W.alloc o).cell? ⟨b, 0, none⟩ = some (.slice p n c) := fun o => ((Below.a1 W o).cell hbl).trans hc
  obtain ⟨x1, x2⟩ := x
  obtain ⟨o, ho⟩ : ∃ o : Obj, o = .cells #[.int .i64 x1, .int .i64 x2] 56 := ⟨_, rfl⟩
  have HB : Hid (∀ X, Below (W.alloc o).heap.size (W.alloc o) X → Below W.heap.size W X) := fun X h => (Below.a1 W o).trans (h.mono (by simp))
  have hne : ¬ b = W.heap.size := by omega
  rw [ho] at HB
  simp only at d ⊢
  clear hT hn ho o
  go_enter Tryz.func71, Tryz.ntmps71
  go_wp2_with fail
  refine (unhide d _).mono ?_
  rintro e w1 ⟨rfl, hw⟩
  have HW := hide (unhide HB _ hw)
  clear hw
  go_wp2_with fail
  go_ret
  exact ⟨rfl, unhide HW⟩
/-- is an order's column there? -/
def ordS (wd : Int) (x : Int × Bool) : Bool := decide (0 ≤ x.1) && decide (x.1 < wd)
theorem ord54 {W : World} {b : Nat} {wd : Int} (hbl : b < W.heap.size) (hc : W.cell? ⟨b, 0, none⟩ = some (.int .i64 wd)) (x : Int × Bool) : Calls Tryz.prog 74 #[.agg #[.int .i64 x.1, .bool x.2], .pointer (some ⟨b, 0, none⟩)] W fun e w' => e = .returned (.bool (ordS wd x)) ∧ Below W.heap.size W w' := by
  obtain ⟨x1, x2⟩ := x
  have hc2 : ∀ o, (W.alloc o).cell? ⟨b, 0, none⟩ = some (.int .i64 wd) := fun o => ((Below.a1 W o).cell hbl).trans hc
  have HB : Hid (∀ o, Below W.heap.size W (W.alloc o)) := Below.a1 W
  have hne : ¬ b = W.heap.size := by omega
  unfold ordS
  simp only
  by_cases h1 : x1 ≥ 0
  · have e1 : decide (0 ≤ x1) = true := decide_eq_true h1
    rw [e1, Bool.true_and]
    go_enter Tryz.func74, Tryz.ntmps74
    go_wp2_with fail
    go_ret
    exact ⟨rfl, unhide HB _⟩
  · have e1 : decide (0 ≤ x1) = false := decide_eq_false h1
    rw [e1, Bool.false_and]
    go_enter Tryz.func74, Tryz.ntmps74
    go_wp2_with fail
    go_ret
    exact ⟨rfl, unhide HB _⟩
end Go.Proofs.YtbenciieenbmeaaGreatDoor
/- errors.Is 22, is 44 of joined faults. -/
namespace Go.Proofs.YtbenciieenbmeaaGreatDoor
open Go Go.Shelf Go.ChangeShapes Go.WideShapes Go.ChangeAt Go.RowKit Go.Maps Go.Extern.Stop Go.Stop Go.Extern
set_option linter.unusedVariables false
set_option maxRecDepth 100000
set_option maxHeartbeats 4000000
/-- the error of all faults -/
def eT : Value := .iface 35 (.int .i64 140)
theorem flt_false : flt false = eT := rfl
theorem flt_true : flt true = .nilIface := rfl
theorem ne1 (w : World) : (binOp .neq 100 (.iface 35 (.int .i64 140)) .nilIface).run Tryz.prog w = .ok (.bool true) w := by kernel_rfl
theorem ne0 (w : World) : (binOp .neq 100 .nilIface .nilIface).run Tryz.prog w = .ok (.bool false) w := by kernel_rfl
theorem eq1 (w : World) : (binOp .eql 100 (.iface 35 (.int .i64 140)) .nilIface).run Tryz.prog w = .ok (.bool false) w := by kernel_rfl
theorem eq0 (w : World) : (binOp .eql 100 .nilIface .nilIface).run Tryz.prog w = .ok (.bool true) w := by kernel_rfl
theorem eq0' (w : World) : (binOp .eql 100 .nilIface (.iface 35 (.int .i64 140))).run Tryz.prog w = .ok (.bool false) w := by kernel_rfl
theorem eqs (w : World) : (binOp .eql 100 (.iface 35 (.int .i64 140)) (.iface 35 (.int .i64 140))).run Tryz.prog w = .ok (.bool true) w := by kernel_rfl
theorem eqj (v : Value) (w : World) : (binOp .eql 100 (.iface 203 v) (.iface 35 (.int .i64 140))).run Tryz.prog w = .ok (.bool false) w := by kernel_rfl
theorem eqj0 (v : Value) (w : World) : (binOp .eql 100 (.iface 203 v) .nilIface).run Tryz.prog w = .ok (.bool false) w := by kernel_rfl
theorem noIs (v : Value) (xT : TypeId) (w : World) : (Instr.typeAssert (.iface 203 v) xT 195 true).run Tryz.prog w = .ok (.tuple #[.nilIface, .bool false]) w := run_typeAssert_lacksB Tryz.underlying195 (by kernel_rfl) (by kernel_rfl) v xT w
theorem noUn (v : Value) (xT : TypeId) (w : World) : (Instr.typeAssert (.iface 203 v) xT 198 true).run Tryz.prog w = .ok (.tuple #[.nilIface, .bool false]) w := run_typeAssert_lacksB Tryz.underlying198 (by kernel_rfl) (by kernel_rfl) v xT w
theorem hasUn (v : Value) (xT : TypeId) (w : World) : (Instr.typeAssert (.iface 203 v) xT 200 true).run Tryz.prog w = .ok (.tuple #[.iface 203 v, .bool true]) w := run_typeAssert_hasB Tryz.underlying200 (by kernel_rfl) v xT w
theorem mUn (v : Value) (w : World) : (Go.method 202 203 v "Unwrap").run Tryz.prog w = .ok (219, v) w := by kernel_rfl
theorem tOf (v : Value) (w : World) : (Extern.ReflectliteType.typeOf #[.iface 35 v]).run Tryz.prog w = .ok (.iface 193 (.agg #[.pointer (some ⟨6, 35, none⟩)])) w := by kernel_rfl
def cmpM : Array Value → Sem Value := Extern.ReflectliteType.method fun t => do Go.Extern.Rtype.noPackHeld "Comparable" t; pure (.bool (← typeInfo t).comparable)
theorem tCmp (w : World) : (cmpM #[.agg #[.pointer (some ⟨6, 35, none⟩)]]).run Tryz.prog w = .ok (.bool true) w := by kernel_rfl
theorem mCmp (v : Value) (w : World) : (Go.method 31 193 v "Comparable").run Tryz.prog w = .ok (209, v) w := by kernel_rfl
theorem is_self (w : World) : Calls Tryz.prog 63 #[.iface 35 (.int .i64 140), .iface 35 (.int .i64 140), .bool true] w fun e w' => e = .returned (.bool true) ∧ w' = w := by
  have h1 := eqs
  go_enter Tryz.func63, Tryz.ntmps63
  go_wp2
  refine wp_loop_rounds 1 ?_
  rw [rounds_succ]
  go_wp2
  go_ret
  exact ⟨rfl, rfl⟩
theorem unwrap_any {w : World} {j : Nat} {v : Value} (h : w.cell? ⟨j, 0, none⟩ = some v) : Calls Tryz.prog 219 #[.pointer (some ⟨j, 0, none⟩)] w fun e w' => e = .returned v ∧ w' = w := by
  go_enter Tryz.func219, Tryz.ntmps219
  go_wp2_with fail
  go_ret
  exact ⟨rfl, rfl⟩
theorem is_join {w : World} {j b m c : Nat} (h : w.cell? ⟨j, 0, none⟩ = some (.slice (some ⟨b, 0, none⟩) m c)) (hm : 1 ≤ m) (h0 : w.cell? ⟨b, 0, none⟩ = some (.iface 35 (.int .i64 140))) : Calls Tryz.prog 63 #[.iface 203 (.pointer (some ⟨j, 0, none⟩)), .iface 35 (.int .i64 140), .bool true] w fun e w' => e = .returned (.bool true) ∧ w' = w := by
  have h1 := eqj
  have h2 := noIs
  have h3 := noUn
  have h4 := hasUn
  have h5 := mUn
  have d := hide (unwrap_any h)
  have d2 := hide is_self
  have hm' : (0 : Int) < (m : Int) := by omega
  go_enter Tryz.func63, Tryz.ntmps63
  go_wp2_with fail
  refine wp_loop_rounds 1 ?_
  rw [rounds_succ]
  go_wp2_with fail
  refine (unhide d).mono ?_
  rintro e w1 ⟨rfl, hw⟩
  rw [hw]; clear hw w1
  go_wp2_with fail
  refine wp_loop_rounds 1 ?_
  rw [rounds_succ]
  go_wp2_with fail
  refine (unhide d2 _).mono ?_
  rintro e w1 ⟨rfl, hw⟩
  rw [hw]; clear hw w1
  go_wp2_with fail
  go_ret
  exact ⟨rfl, rfl⟩
theorem eIs_nil (w : World) : Calls Tryz.prog 42 #[.nilIface, .iface 35 (.int .i64 140)] w fun e w' => e = .returned (.bool false) ∧ w' = w := by
  have h1 := eq0
  have h2 := eq0'
  go_enter Tryz.func42, Tryz.ntmps42
  go_wp2_with fail
  go_ret
  exact ⟨rfl, rfl⟩
theorem eIs_join {w : World} {j b m c : Nat} (h : w.cell? ⟨j, 0, none⟩ = some (.slice (some ⟨b, 0, none⟩) m c)) (hm : 1 ≤ m) (h0 : w.cell? ⟨b, 0, none⟩ = some (.iface 35 (.int .i64 140))) : Calls Tryz.prog 42 #[.iface 203 (.pointer (some ⟨j, 0, none⟩)), .iface 35 (.int .i64 140)] w fun e w' => e = .returned (.bool true) ∧ w' = w := by
  have h8 := @run_callFunc_extern Tryz.prog 62 _ Extern.ReflectliteType.typeOf Tryz.func62 (by kernel_rfl) (by kernel_rfl) (by kernel_rfl) (by kernel_rfl)
  have h32 := @run_callFunc_extern Tryz.prog 209 _ cmpM Tryz.func209 (by kernel_rfl) (by kernel_rfl) (by kernel_rfl) (by kernel_rfl)
  have tT := tOf
  have cT := tCmp
  have mR := mCmp
  have q1 := eqj0
  have q2 := eq1
  have d := hide (is_join h hm h0)
  clear h h0 hm
  go_enter Tryz.func42, Tryz.ntmps42
  go_wp2_with fail
  refine (unhide d).mono ?_
  rintro e w1 ⟨rfl, hw⟩
  rw [hw]; clear hw w1
  go_wp2_with fail
  go_ret
  exact ⟨rfl, rfl⟩
end Go.Proofs.YtbenciieenbmeaaGreatDoor
/- errors.Join 56. -/
namespace Go.Proofs.YtbenciieenbmeaaGreatDoor
open Go Go.Shelf Go.ChangeShapes Go.WideShapes Go.ChangeAt Go.RowKit Go.Maps
set_option linter.unusedVariables false
set_option maxRecDepth 100000
set_option maxHeartbeats 4000000
def kE : Kd Bool := ⟨fun b => [flt b], 1, 201, 100, 16⟩
theorem kE_ok : KdOK kE := kd_ok (fun _ => rfl) (by decide) (fun x u hu => by simp [kE] at hu; subst hu; cases x <;> rfl) Tryz.underlying201 (z := .nilIface) (by kernel_rfl) rfl (by decide)
/-- how many faults there are -/
def cntF (B : List Bool) : Nat := B.countP (fun b => !b)
theorem cntF_take (B : List Bool) (k : Nat) (hk : k < B.length) : cntF (B.take (k + 1)) = cntF (B.take k) + (if B[k] then 0 else 1) := by
  unfold cntF
  rw [List.take_succ_eq_append_getElem hk, List.countP_append]
  cases B[k] <;> rfl
theorem cntF_all {B : List Bool} : cntF B = 0 ↔ B.all id = true := by
  unfold cntF
  rw [List.countP_eq_zero, List.all_eq_true]
  exact ⟨fun h x hx => by have := h x hx; simpa using this, fun h x hx => by have := h x hx; simp at this; rw [this]; decide⟩
theorem cntF_le (B : List Bool) : cntF B ≤ B.length := List.countP_le_length
/-- what Join has made so far -/
structure Jn (W wr : World) (j : Nat) (q : Option Addr) (k c : Nat) : Prop where
  obj : wr.heap[j]? = some (.cells #[.slice q k c] 205 (0, 0))
  row : Rw kE W wr (.slice q k c) k (List.replicate k false)
  jlo : W.heap.size ≤ j
theorem row_type {α : Type} {K : Kd α} {W wr : World} {v : Value} {n g : Nat} {L : List α} (h : Rw K W wr v n L) (hg : v.ownBlock = some g) : ∃ cur, wr.heap[g]? = some (.cells cur K.e (0, 0)) := by
  rcases h.row.2 with ⟨e, h2⟩ | ⟨g', cap, cur, e, hB, hh, h3⟩
  · rw [e] at hg; cases hg
  · rw [e] at hg
    have e2 : g' = g := Option.some.inj hg
    subst e2
    exact ⟨cur, hh⟩
theorem Jn.ne {W wr : World} {j : Nat} {q : Option Addr} {k c : Nat} (h : Jn W wr j q k c) : (Value.slice q k c).ownBlock ≠ some j := fun e => by
  obtain ⟨cur, hc⟩ := row_type h.row e
  rw [h.obj] at hc
  injection hc with hc
  injection hc with h1 h2
  exact absurd h2 (by decide)
theorem heap_set1 {w : World} {b : Nat} {x y : Value} {t : TypeId} (h : w.heap[b]? = some (.cells #[x] t (0, 0))) : (w.setCell ⟨b, 0, none⟩ y).heap[b]? = some (.cells #[y] t (0, 0)) := by
  simp [World.setCell, Array.getElem?_modify, h]
theorem heap_new (w : World) (o : Obj) : (w.alloc o).heap[w.heap.size]? = some o := by
  show (w.heap.push o)[w.heap.size]? = _
  simp
theorem Jn.more {W wr : World} {j : Nat} {q : Option Addr} {k c : Nat} (h : Jn W wr j q k c) (hk : k ≤ 1000) :
    ∃ p' c' w', (Builtin.append_ #[201, 201] 201 #[.slice q k c, .slice (some ⟨wr.heap.size, 0, none⟩) 1 1]).run Tryz.prog (wr.alloc (.cells #[.iface 35 (.int .i64 140)] 100)) = .ok (.slice p' (k + 1) c') w' ∧ w'.cell? ⟨j, 0, none⟩ = some (.slice q k c) ∧ w'.frozen? ⟨j, 0, none⟩ = false ∧ Jn W (w'.setCell ⟨j, 0, none⟩ (.slice p' (k + 1) c')) j p' (k + 1) c' := by
  have hjl : j < wr.heap.size := (Array.getElem?_eq_some_iff.1 h.obj).1
  obtain ⟨p8, c8, w8, r8, o8, b8, s8, n8⟩ := run_app kE_ok 201 (W := wr.alloc (.cells #[.iface 35 (.int .i64 140)] 100)) (M := [false]) (B := W.heap.size) (L := List.replicate k false) (n := k) (v := .slice q k c) (h.row.row.alloc _) (Nat.le_trans h.row.bel.size (by simp)) (some ⟨wr.heap.size, 0, none⟩) 1 (fun h => by cases h) (one_lies wr false 100 #[.iface 35 (.int .i64 140)] rfl) (by show k + 1 ≤ _; omega)
  have hj8 : w8.heap[j]? = some (.cells #[.slice q k c] 205 (0, 0)) := by
    rw [s8 j (by simp; omega) h.ne, Below.heap_alloc _ _ _ hjl]
    exact h.obj
  have hlen : (List.replicate k false ++ [false]) = List.replicate (k + 1) false := by rw [List.replicate_succ']
  rw [hlen] at o8
  have hbel : Below W.heap.size W w8 := (h.row.bel.alloc h.row.bel.size _).trans b8
  have hR8 : Rw kE W w8 (.slice p8 (k + 1) c8) (k + 1) (List.replicate (k + 1) false) := ⟨o8, hbel, by simp⟩
  have hne8 : ∀ g, (Value.slice p8 (k + 1) c8).ownBlock = some g → g ≠ j := fun g hg e => by
    obtain ⟨cur, hc⟩ := row_type hR8 hg
    rw [e, hj8] at hc
    injection hc with hc
    injection hc with h1 h2
    exact absurd h2 (by decide)
  refine ⟨p8, c8, w8, r8, ?_, ?_, heap_set1 hj8, ⟨row_keep o8 (fun g hg => Below.heap_setCell _ _ _ _ (hne8 g hg)), hbel.setCell (p := ⟨j, 0, none⟩) h.jlo _, by simp⟩, h.jlo⟩
  · simp [World.cell?, hj8]
  · simp [World.frozen?, hj8]
/-- what Join answers -/
def JoinV (W : World) (B : List Bool) (v : Value) (w' : World) : Prop := Below W.heap.size W w' ∧ (if B.all id then v = .nilIface else ∃ j b m c, v = .iface 203 (.pointer (some ⟨j, 0, none⟩)) ∧ w'.cell? ⟨j, 0, none⟩ = some (.slice (some ⟨b, 0, none⟩) m c) ∧ 1 ≤ m ∧ w'.cell? ⟨b, 0, none⟩ = some (.iface 35 (.int .i64 140)))
theorem join_any {W : World} {p : Option Addr} {n c : Nat} {B : List Bool} (hn : B.length = n) (hB : Lies kE W p B) (hb : n ≤ 100) : Calls Tryz.prog 64 #[.slice p n c] W fun e w' => ∃ v, e = .returned v ∧ JoinV W B v w' := by
  have h1 := ne1
  have h0 := ne0
  have HN := hide hn; have HB := hide hB
  clear hn hB
  go_enter Tryz.func64, Tryz.ntmps64
  go_wp2_with fail
  go_loop [3, 11] (fun v3 v11 => ∃ (k t : Nat), v11 = .int .i64 k ∧ k ≤ n ∧ v3 = .int .i64 t ∧ t ≤ k ∧ Hid (t = cntF (B.take k))) (fun _ v11 => n - (intOf v11).toNat)
  case atStart => exact ⟨0, 0, rfl, by omega, rfl, by omega, by simp [cntF, Hid]⟩
  case round =>
    obtain ⟨k, t, rfl, hk, rfl, ht, hrel⟩ := hrel
    by_cases hlt : k < n
    · have hkl : k < B.length := by rw [unhide HN]; exact hlt
      obtain ⟨b, off, e1, hbl, hr⟩ := (unhide HB).2 k hkl
      have hct := hide (cntF_take B k hkl)
      obtain ⟨x, hx⟩ : ∃ x, x = B[k] := ⟨_, rfl⟩
      rw [← hx] at hr hct
      have hc := hr 0 (flt x) rfl
      simp only [kE, Nat.mul_one, Nat.add_zero] at hc
      have hkn : (k : Int) < (n : Int) := by omega
      subst e1
      clear hr hx hkl
      cases x with
      | true =>
        rw [flt_true] at hc
        go_wp2_with fail
        refine ⟨⟨k + 1, t, by go_num, by omega, rfl, by omega, ?_⟩, by simp [intOf]; omega⟩
        show _ = _
        rw [unhide hct, ← unhide hrel]
        rfl
      | false =>
        rw [flt_false, eT] at hc
        go_wp2_with fail
        refine ⟨⟨k + 1, t + 1, by go_num, by omega, by go_num, by omega, ?_⟩, by simp [intOf]; omega⟩
        show _ = _
        rw [unhide hct, ← unhide hrel]
        rfl
    · have hkn : k = n := by omega
      subst hkn
      have htot : Hid (t = cntF B) := by
        have := unhide hrel
        rwa [List.take_of_length_le (by rw [unhide HN]; exact Nat.le_refl _)] at this
      clear hrel
      by_cases ht0 : t = 0
      · subst ht0
        have hall : Hid (B.all id = true) := cntF_all.1 (unhide htot).symm
        go_wp2_with fail
        go_ret
        refine ⟨_, rfl, Below.refl _ _, ?_⟩
        rw [if_pos (unhide hall)]
        rfl
      · have hall : Hid (¬ B.all id = true) := fun h => ht0 ((unhide htot).trans (cntF_all.2 h))
        have ht0' : ((t : Int) == 0) = false := beqF (by omega)
        have ht0'' : ¬ (t : Int) = 0 := by omega
        obtain ⟨w0, hmk, hr0⟩ := Rw.made kE_ok W t (by show 16 * t ≤ _; omega) (by omega)
        have hmk : (Instr.makeSlice 201 (.int .i64 0) (.int .i64 (t : Int))).run Tryz.prog W = .ok (.slice (some ⟨W.heap.size, 0, none⟩) 0 t) w0 := hmk
        have HJ0 : Hid (Jn W (w0.alloc (.cells #[.slice (some ⟨W.heap.size, 0, none⟩) 0 t] 205)) w0.heap.size (some ⟨W.heap.size, 0, none⟩) 0 t) := ⟨heap_new _ _, hr0.below (Below.a1 w0 _), hr0.bel.size⟩
        clear hr0
        go_wp2_with fail
        go_loopw [28] (fun v28 wr => ∃ (i m : Nat) (q : Option Addr) (cq : Nat), v28 = .int .i64 i ∧ i ≤ k ∧ m ≤ i ∧ Hid (m = cntF (B.take i)) ∧ Hid (Jn W wr w0.heap.size q m cq)) (fun v28 _ => k - (intOf v28).toNat)
        case atStart => exact ⟨0, 0, _, _, rfl, by omega, by omega, by simp [cntF, Hid], unhide HJ0⟩
        case round =>
          obtain ⟨i, m, q, cq, rfl, hi, hmi, hrel1, hrel2⟩ := hrel
          by_cases hlt : i < k
          · have hkl : i < B.length := by rw [unhide HN]; exact hlt
            obtain ⟨b, off, e1, hbl, hr⟩ := (unhide HB).2 i hkl
            have hct := hide (cntF_take B i hkl)
            obtain ⟨x, hx⟩ : ∃ x, x = B[i] := ⟨_, rfl⟩
            rw [← hx] at hr hct
            have hc := ((unhide hrel2).row.bel.cell (p := ⟨b, off + i * kE.s + 0, none⟩) hbl).trans (hr 0 (flt x) rfl)
            simp only [kE, Nat.mul_one, Nat.add_zero] at hc
            have hkn : (i : Int) < (k : Int) := by omega
            subst e1
            clear hr hx hkl hbl
            cases x with
            | true =>
              rw [flt_true] at hc
              go_wp2_with fail
              refine ⟨⟨i + 1, m, q, cq, by go_num, by omega, by omega, ?_, unhide hrel2⟩, by simp [intOf]; omega⟩
              show _ = _
              rw [unhide hct, ← unhide hrel1]
              rfl
            | false =>
              rw [flt_false, eT] at hc
              have hj0 : wr.cell? ⟨w0.heap.size, 0, none⟩ = some (.slice q m cq) := by simp [World.cell?, (unhide hrel2).obj]
              obtain ⟨p8, c8, w8, r8, c80, f80, j8⟩ := (unhide hrel2).more (by omega)
              have HR8 := hide r8; have HJ8 := hide j8
              clear r8 j8
              go_wp2_with (at_builtin; refine wpList_append_run rfl _ _ 201 rfl _ _ _ _ rfl rfl (unhide HR8) ?_)
              refine ⟨⟨i + 1, m + 1, p8, c8, by go_num, by omega, by omega, ?_, unhide HJ8⟩, by simp [intOf]; omega⟩
              show _ = _
              rw [unhide hct, ← unhide hrel1]
              rfl
          · have hik : i = k := by omega
            subst hik
            have htot2 : Hid (m = cntF B) := by
              have := unhide hrel1
              rwa [List.take_of_length_le (by rw [unhide HN]; exact Nat.le_refl _)] at this
            clear hrel1
            go_wp2_with fail
            go_ret
            refine ⟨_, rfl, (unhide hrel2).row.bel, ?_⟩
            rw [if_neg (unhide hall)]
            have hm1 : 1 ≤ m := by
              have h1 := unhide htot
              have h2 := unhide htot2
              omega
            obtain ⟨b, off, e1, hbl, hr⟩ := ((unhide hrel2).row.lies kE_ok).2 0 (by simp; omega)
            obtain ⟨qq, cc, e2, e3, e4⟩ := row_slice (unhide hrel2).row.row
            cases e2
            subst e1
            have h5 := (e4 _ rfl).1
            simp only at h5
            subst h5
            have h6 := hr 0 (.iface 35 (.int .i64 140)) (by simp [kE, flt])
            exact ⟨w0.heap.size, b, m, cq, rfl, by simp [World.cell?, (unhide hrel2).obj], hm1, by simpa using h6⟩
theorem JoinV.up {W X w' : World} {B : List Bool} {v : Value} (h : JoinV X B v w') (hb : Below W.heap.size W X) : JoinV W B v w' := ⟨hb.trans (h.1.mono hb.size), h.2⟩
end Go.Proofs.YtbenciieenbmeaaGreatDoor
