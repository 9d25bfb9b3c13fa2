/- aged: Invoice (25). -/
import Derived.Test.YtildpgfhahmgmaaDoorInB
import Derived.Test.YtildpgfhahmgmaaDoorKeB
import Derived.Test.YtildpgfhahmgmaaDoorKeC
import Derived.Test.YtildpgfhahmgmaaDoorKeD
namespace Go.Proofs.YtildpgfhahmgmaaDoor
open Go Go.Shelf Go.ChangeShapes Go.WideShapes Go.ChangeAt Go.RowKit Go.Maps
set_option linter.unusedVariables false
theorem keep_any {W : World} {d p : Nat} {G : Gh} (HI : KeepIn W d p G) : Calls Tryd.prog 45 #[ptr d, ptr p] W fun e w' => e = .returned (.tuple #[]) ∧ KeptOut W w' d p G := by
  cases h1 : G.mb with
  | none => exact keep_first HI h1
  | some b =>
    cases h2 : G.qa (G.key p) with
    | none => exact keep_new HI h1 h2
    | some q => exact keep_has HI h2
theorem Raw.lookK {W : World} {d : Nat} {G : Gh} (h : Raw W d G) {s : ByteArray} (hs : s.size ≤ maxLen) : (Instr.lookup 78 (.map G.mb) (.string s) false).run Tryd.prog W = .ok (optp (G.kf s.data.toList)) W := by
  cases hb : G.mb with
  | none =>
    rw [h.mn hb]
    exact Maps.look_nil false (string_keyed Tryd.underlying9) und78 (zero84 W) (keyM hs)
  | some b => exact (h.mm b hb).look und78 (zero84 W) hs
theorem Raw.lookA {W : World} {d : Nat} {G : Gh} (h : Raw W d G) {s : ByteArray} (hs : s.size ≤ maxLen) : (Instr.lookup 79 (.map G.ma) (.string s) false).run Tryd.prog W = .ok (optp (G.qa s.data.toList)) W := by
  cases hb : G.ma with
  | none =>
    rw [h.an hb]
    exact Maps.look_nil false (string_keyed Tryd.underlying9) und79 (zero89 W) (keyM hs)
  | some b => exact (h.am b hb).look und79 (zero89 W) hs
def ld37 (x : Value) : Sem Value := Instr.loadAt 37 x
theorem ld37_is (x : Value) : Instr.loadAt 37 x = ld37 x := rfl
theorem size37 : (Tryd.prog.info? 37).map (·.size) = some 5 := by kernel_rfl
theorem run_ld37 {w : World} {b o : Nat} {c : Cl} (h : w.rangeAt b o c.vals) : (ld37 (.pointer (some ⟨b, o, none⟩))).run Tryd.prog w = .ok (.agg #[.string c.key, .string c.acc, .int .i64 c.day, .int .i64 c.due, .int .i64 c.amt]) w :=
  run_loadAt_mid (P := Tryd.prog) w b o 37 c.vals _ h Tryd.underlying37 rfl size37
attribute [local go_sem ↓] ld37_is
/-- what Invoice leaves -/
def InvOut (W w' : World) (d : Nat) (S : Nat → Prop) (C : List Cl) (A : List Al) (g : Int) (c : Cl) : Prop := (invS C c ≠ 0 → Below W.heap.size W w') ∧ (invS C c = 0 → VwNext W w' d S (C ++ [c]) A g)
theorem InvOut.bad {W w' : World} {d : Nat} {S : Nat → Prop} {C : List Cl} {A : List Al} {g : Int} {c : Cl} (x : Int) (h : invS C c = x) (h0 : x ≠ 0) (hb : Below W.heap.size W w') : InvOut W w' d S C A g c := ⟨fun _ => hb, fun e => absurd (h.symm.trans e) h0⟩
theorem retx {a b : Int} (h : a = b) : Ending.returned (.int .i64 a) = .returned (.int .i64 b) := by rw [h]
set_option maxRecDepth 100000 in
set_option maxHeartbeats 8000000 in
theorem invoice_arg {W : World} {d : Nat} {S : Nat → Prop} {C : List Cl} {A : List Al} {g : Int} {c : Cl} (hx : ¬ (dayB c.day = true ∧ dayB c.due = true ∧ ¬ c.due < c.day ∧ ¬ c.amt < 1)) :
    Calls Tryd.prog 25 #[ptr d, .agg #[.string c.key, .string c.acc, .int .i64 c.day, .int .i64 c.due, .int .i64 c.amt]] W fun e w' => e = .returned (.int .i64 (invS C c)) ∧ InvOut W w' d S C A g c := by
  have hv : invS C c = 1 := by unfold invS; rw [if_pos hx]
  have HO : Hid (∀ w', Below W.heap.size W w' → InvOut W w' d S C A g c) := fun w' => InvOut.bad 1 hv (by decide)
  rw [hv]
  have d1 := hide (isDay_any c.day)
  have d2 := hide (isDay_any c.due)
  have HB := hide ((Below.refl W.heap.size W).alloc (Nat.le_refl _) (.cells #[.string c.key, .string c.acc, .int .i64 c.day, .int .i64 c.due, .int .i64 c.amt] 37))
  unfold ptr
  clear hv
  cases h1 : dayB c.day with
  | false =>
    rw [h1] at d1
    clear hx h1
    go_enter Tryd.func25, Tryd.ntmps25
    go_wp2_with (first | (go_at_call 36; refine (unhide d1 _).mono ?_; rintro e w1 ⟨rfl, hw⟩; rw [hw]; clear hw w1))
    go_ret
    exact ⟨rfl, unhide HO _ (unhide HB)⟩
  | true =>
    cases h2 : dayB c.due with
    | false =>
      rw [h1] at d1
      rw [h2] at d2
      clear hx h1 h2
      go_enter Tryd.func25, Tryd.ntmps25
      go_wp2_with fail
      refine (unhide d1 _).mono ?_
      rintro e w1 ⟨rfl, hw⟩
      rw [hw]
      clear hw w1
      go_wp2_with fail
      refine (unhide d2 _).mono ?_
      rintro e w1 ⟨rfl, hw⟩
      rw [hw]
      clear hw w1
      go_wp2_with fail
      go_ret
      exact ⟨rfl, unhide HO _ (unhide HB)⟩
    | true =>
      rw [h1] at d1
      rw [h2] at d2
      by_cases h3 : c.due < c.day
      · clear hx h1 h2
        go_enter Tryd.func25, Tryd.ntmps25
        go_wp2_with fail
        refine (unhide d1 _).mono ?_
        rintro e w1 ⟨rfl, hw⟩
        rw [hw]
        clear hw w1
        go_wp2_with fail
        refine (unhide d2 _).mono ?_
        rintro e w1 ⟨rfl, hw⟩
        rw [hw]
        clear hw w1
        go_wp2_with fail
        go_ret
        exact ⟨rfl, unhide HO _ (unhide HB)⟩
      · have h4 : c.amt < 1 := by
          by_cases h4 : c.amt < 1
          · exact h4
          · exact absurd ⟨h1, h2, h3, h4⟩ hx
        clear hx h1 h2
        go_enter Tryd.func25, Tryd.ntmps25
        go_wp2_with fail
        refine (unhide d1 _).mono ?_
        rintro e w1 ⟨rfl, hw⟩
        rw [hw]
        clear hw w1
        go_wp2_with fail
        refine (unhide d2 _).mono ?_
        rintro e w1 ⟨rfl, hw⟩
        rw [hw]
        clear hw w1
        go_wp2_with fail
        go_ret
        exact ⟨rfl, unhide HO _ (unhide HB)⟩
theorem neqn (w : World) : (binOp .neq 84 (.pointer none) (.pointer none)).run Tryd.prog w = .ok (.bool false) w := by kernel_rfl
theorem own_more {G : Gh} {d p b : Nat} {c : Cl} (hp : p ∉ G.bs) (h : (G.more p c).own d b) : b = p ∨ G.own d b := own_reg (G := ({ G with inv := G.inv + c.amt } : Gh)) (c := c) hp h
theorem cells_eq (c : Cl) : (#[.string c.key, .string c.acc, .int .i64 c.day, .int .i64 c.due, .int .i64 c.amt] : Array Value).toList = c.vals := rfl
set_option maxRecDepth 100000 in
set_option maxHeartbeats 16000000 in
theorem invoice_any {W : World} {d : Nat} {S : Nat → Prop} {C : List Cl} {A : List Al} {g : Int} (hV : Vw W d S C A g) (hS : Stp W) {c : Cl} (hk : c.key.size ≤ maxLen) (ha : c.acc.size ≤ maxLen) (hm : c.amt ≤ 9223372036854775807) :
    Calls Tryd.prog 25 #[ptr d, .agg #[.string c.key, .string c.acc, .int .i64 c.day, .int .i64 c.due, .int .i64 c.amt]] W fun e w' => e = .returned (.int .i64 (invS C c)) ∧ InvOut W w' d S C A g c := by
  by_cases hx : dayB c.day = true ∧ dayB c.due = true ∧ ¬ c.due < c.day ∧ ¬ c.amt < 1
  case neg => exact invoice_arg hx
  case pos =>
  obtain ⟨h1, h2, h3, h4⟩ := hx
  obtain ⟨G, hI, hR, hC, hA, hg, hown⟩ := hV.ex
  have hlen : C.length = G.ps.length := by rw [← hC]; simp
  have d1 := hide (isDay_any c.day)
  have d2 := hide (isDay_any c.due)
  rw [h1] at d1
  rw [h2] at d2
  have hd1 : 1 ≤ c.day := by unfold dayB at h1; simp at h1; omega
  have hd2 : c.due ≤ 3652059 := by unfold dayB at h2; simp at h2; omega
  obtain ⟨bx, hbx⟩ : ∃ bx, bx = W.heap.size := ⟨_, rfl⟩
  obtain ⟨X, hX⟩ : ∃ X, X = W.alloc (.cells #[.string c.key, .string c.acc, .int .i64 c.day, .int .i64 c.due, .int .i64 c.amt] 37) := ⟨_, rfl⟩
  have hbX : Below W.heap.size W X := by rw [hX]; exact (Below.refl _ _).alloc (Nat.le_refl _) _
  have hRX : Raw X d G := hR.below hbX
  have hXb : X.heap[bx]? = some (.cells #[.string c.key, .string c.acc, .int .i64 c.day, .int .i64 c.due, .int .i64 c.amt] 37 (0, 0)) := by rw [hX, hbx]; exact heap_new _ _
  obtain ⟨pc, cc, hvc, _, _⟩ := row_slice hR.rc
  have c0 : X.cell? ⟨d, 0, none⟩ = some (.slice pc G.ps.length cc) := by rw [cell_at hRX.ob]; show some G.vc = _; rw [hvc]
  have x2 : X.cell? ⟨bx, 2, none⟩ = some (.int .i64 c.day) := by rw [cell_at hXb]; rfl
  have x3 : X.cell? ⟨bx, 3, none⟩ = some (.int .i64 c.due) := by rw [cell_at hXb]; rfl
  have x4 : X.cell? ⟨bx, 4, none⟩ = some (.int .i64 c.amt) := by rw [cell_at hXb]; rfl
  have HSTART : Hid (∀ (T : Ending → World → Prop), Calls Tryd.prog 25 #[ptr d, .agg #[.string c.key, .string c.acc, .int .i64 c.day, .int .i64 c.due, .int .i64 c.amt]] W T → Calls Tryd.prog 25 #[ptr d, .agg #[.string c.key, .string c.acc, .int .i64 c.day, .int .i64 c.due, .int .i64 c.amt]] W T) := fun T h => h
  by_cases hl : C.length = 1000
  · have hv : invS C c = 2 := by unfold invS; rw [if_neg (fun h => h ⟨h1, h2, h3, h4⟩), if_pos hl]
    have HO := hide (InvOut.bad (W := W) (w' := X) (d := d) (S := S) (A := A) (g := g) 2 hv (by decide) hbX)
    have hl2 : ((G.ps.length : Int) == 1000) = true := by rw [beq_iff_eq]; omega
    have hl3 : (G.ps.length : Int) = 1000 := by omega
    rw [hv]
    unfold ptr
    have HXX := hide hX
    clear hv hV hI hR hC hA hg hown hRX hXb hvc hlen hl hbX h1 h2 hd1 hd2 hX
    go_enter Tryd.func25, Tryd.ntmps25
    go_wp2_with fail
    rw [← unhide HXX, ← hbx]
    clear hbx HXX
    refine (unhide d1 _).mono ?_
    rintro e w1 ⟨rfl, hw⟩
    rw [hw]
    clear hw w1
    go_wp2_with fail
    refine (unhide d2 _).mono ?_
    rintro e w1 ⟨rfl, hw⟩
    rw [hw]
    clear hw w1
    go_wp2_with fail
    go_ret
    exact ⟨rfl, unhide HO⟩
  have hlt : G.ps.length < 1000 := by have := hI.l1; omega
  have hl2 : ((G.ps.length : Int) == 1000) = false := by rw [beq_eq_false_iff_ne]; omega
  have hl3 : ¬ (G.ps.length : Int) = 1000 := by omega
  have hRD : Raw X.drew d G := hRX.keep (fun _ _ => rfl)
  have y1 : X.drew.cell? ⟨d, 1, none⟩ = some (.map G.mb) := by rw [cell_at hRD.ob]; rfl
  have y0 : X.drew.cell? ⟨bx, 0, none⟩ = some (.string c.key) := by
    show X.cell? _ = _
    rw [cell_at hXb]; rfl
  have hlk := hRD.lookK hk
  have HXX := hide hX; have HBX := hide hbx
  cases hkf : G.kf c.key.data.toList with
  | some p0 =>
    have hv : invS C c = 70 := by
      unfold invS
      rw [if_neg (fun h => h ⟨h1, h2, h3, h4⟩), if_neg hl, if_pos]
      rw [← hC, hI.toInv0.has, hkf]
      exact fun e => by cases e
    have HO := hide (InvOut.bad (W := W) (w' := X.drew) (d := d) (S := S) (A := A) (g := g) 70 hv (by decide) hbX.drew)
    rw [hkf] at hlk
    unfold optp ptr at hlk
    rw [hv]
    unfold ptr
    clear hv hV hI hR hC hA hg hown hRX hXb hvc hlen hl hbX h1 h2 hd1 hd2 hX hbx hRD hkf hlt
    go_enter Tryd.func25, Tryd.ntmps25
    go_wp2_with fail
    rw [← unhide HXX, ← unhide HBX]
    clear HXX HBX
    refine (unhide d1 _).mono ?_
    rintro e w1 ⟨rfl, hw⟩
    rw [hw]
    clear hw w1
    go_wp2_with fail
    refine (unhide d2 _).mono ?_
    rintro e w1 ⟨rfl, hw⟩
    rw [hw]
    clear hw w1
    go_wp2_with fail
    refine wp_region_last (n := 8) (S := fun W' => W'.cell? ⟨d, 1, none⟩ = some (.map G.mb) ∧ W'.cell? ⟨bx, 0, none⟩ = some (.string c.key) ∧ (Instr.lookup 78 (.map G.mb) (.string c.key) false).run Tryd.prog W' = .ok (.pointer (some ⟨p0, 0, none⟩)) W') (by kernel_rfl) (by exact ⟨y1, y0, hlk⟩) (fun hHeld => ?_)
    refine tkW 0 ?_; refine tkW 1 ?_; refine tkW 2 ?_; refine tkN 3 ?_; refine tkW 4 ?_; refine tkN 5 ?_; refine tkN 6 ?_; refine tkW 7 ?_
    refine wpAnyL_done (by kernel_rfl) ?_
    clear hHeld hlk y1 y0
    go_wp2_with fail
    go_ret
    exact ⟨rfl, unhide HO⟩
  | none =>
    rw [hkf] at hlk
    unfold optp at hlk
    have hnn := neqn
    have hinv := hI.toInv0.total
    rw [hC] at hinv
    have hin0 : 0 ≤ G.inv := by rw [hI.inv]; exact sumL_nonneg hI.toInv0.amt_nonneg
    have hin1 := hI.invm
    have hhas : has C c.key.data.toList = false := by
      rw [Bool.eq_false_iff]
      intro e
      rw [← hC, hI.toInv0.has] at e
      exact e hkf
    have z4 : X.drew.drew.cell? ⟨d, 4, none⟩ = some (.int .i64 G.inv) := by
      show X.cell? _ = _
      rw [cell_at hRX.ob]; rfl
    have z5 : X.drew.drew.cell? ⟨bx, 4, none⟩ = some (.int .i64 c.amt) := x4
    by_cases hov : G.inv + c.amt > 9223372036854775807
    · have hv : invS C c = 11 := by
        unfold invS
        rw [if_neg (fun h => h ⟨h1, h2, h3, h4⟩), if_neg hl, hhas, if_neg (by simp), if_pos (by rw [← hinv]; exact hov)]
      have HO := hide (InvOut.bad (W := W) (w' := X.drew.drew) (d := d) (S := S) (A := A) (g := g) 11 hv (by decide) hbX.drew.drew)
      have dA := hide (add_over G.inv c.amt ⟨hin0, hin1⟩ ⟨by omega, hm⟩ hov)
      rw [hv]
      unfold ptr
      clear hv hV hI hR hC hA hg hown hRX hXb hvc hlen hl hbX h1 h2 hd1 hd2 hX hbx hRD hkf hlt hinv hin0 hin1 hhas hov
      go_enter Tryd.func25, Tryd.ntmps25
      go_wp2_with fail
      rw [← unhide HXX, ← unhide HBX]
      clear HXX HBX
      refine (unhide d1 _).mono ?_
      rintro e w1 ⟨rfl, hw⟩
      rw [hw]
      clear hw w1
      go_wp2_with fail
      refine (unhide d2 _).mono ?_
      rintro e w1 ⟨rfl, hw⟩
      rw [hw]
      clear hw w1
      go_wp2_with fail
      refine wp_region_last (n := 8) (S := fun W' => W'.cell? ⟨d, 1, none⟩ = some (.map G.mb) ∧ W'.cell? ⟨bx, 0, none⟩ = some (.string c.key) ∧ (Instr.lookup 78 (.map G.mb) (.string c.key) false).run Tryd.prog W' = .ok (.pointer none) W') (by kernel_rfl) (by exact ⟨y1, y0, hlk⟩) (fun hHeld => ?_)
      refine tkW 0 ?_; refine tkW 1 ?_; refine tkW 2 ?_; refine tkN 3 ?_; refine tkW 4 ?_; refine tkN 5 ?_; refine tkN 6 ?_; refine tkW 7 ?_
      refine wpAnyL_done (by kernel_rfl) ?_
      clear hHeld hlk y1 y0
      go_wp2_with fail
      refine wp_region_last (n := 12) (S := fun W' => W'.cell? ⟨d, 4, none⟩ = some (.int .i64 G.inv) ∧ W'.cell? ⟨bx, 4, none⟩ = some (.int .i64 c.amt) ∧ W' = X.drew.drew) (by kernel_rfl) (by exact ⟨z4, z5, rfl⟩) (fun hHeld => ?_)
      refine tkW 0 ?_; refine tkW 1 ?_; refine tkW 2 ?_; refine tkN 3 ?_; refine tkW 4 ?_; refine tkN 5 ?_
      refine wpAnyL_one (i := 6) (by kernel_rfl) rfl (fun KK hK => ?_)
      go_simp
      go_wp2_with (first | (go_at_call 44; refine (unhide dA _).mono ?_; rintro e w2 ⟨rfl, hw⟩; rw [hw]; clear hw w2))
      refine hK.out _ _ (by exact ⟨z4, z5, rfl⟩) (fun hHeld => ?_)
      clear hK KK
      refine tkW 7 ?_; refine tkW 8 ?_; refine tkW 9 ?_; refine tkW 10 ?_; refine tkW 11 ?_
      refine wpAnyL_done (by kernel_rfl) ?_
      clear hHeld
      go_wp2_with fail
      go_ret
      exact ⟨rfl, unhide HO⟩
    · have hv : invS C c = 0 := by
        unfold invS
        rw [if_neg (fun h => h ⟨h1, h2, h3, h4⟩), if_neg hl, hhas, if_neg (by simp), if_neg (by rw [← hinv]; exact hov)]
      have dA := hide (add_ok G.inv c.amt ⟨hin0, hin1⟩ ⟨by omega, hm⟩ (by omega))
      have hOk : OkC c := ⟨hd1, hd2, by omega, by omega, hm, hk, ha⟩
      obtain ⟨X2, hX2⟩ : ∃ X2, X2 = X.drew.drew.setCell ⟨d, 4, none⟩ (.int .i64 (G.inv + c.amt)) := ⟨_, rfl⟩
      have hbd : bx ≠ d := fun e => by have := hR.lt (G := G) (d := d) own_d; omega
      have n2 : Next X X2 d G { G with inv := G.inv + c.amt } := by
        refine hRX.scalar rfl rfl rfl rfl rfl rfl rfl rfl rfl rfl rfl rfl rfl rfl rfl rfl rfl ?_ ?_ (fun p hp => ?_) (fun k q hq => ?_)
        · rw [hX2]; exact (Fr.refl X _).drew.drew.setCell (.inl (.inl rfl)) _
        · rw [hX2, Go.heap_setCell_same _ _ _ _ _ _ (show X.drew.drew.heap[d]? = _ from hRX.ob)]; rfl
        · rw [hX2, Below.heap_setCell _ _ _ _ (fun e => by have h5 := hRX.tyB hp; rw [e, hRX.tyD] at h5; cases h5)]; exact hRX.cb p hp
        · rw [hX2, Below.heap_setCell _ _ _ _ (fun e => by have h5 := hRX.tyQ hq; rw [e, hRX.tyD] at h5; cases h5)]; exact hRX.ac k q hq
      obtain ⟨p, hp⟩ : ∃ p, p = X2.heap.size := ⟨_, rfl⟩
      obtain ⟨X3, hX3⟩ : ∃ X3, X3 = X2.alloc (.cells c.cells 99) := ⟨_, rfl⟩
      have hpW : W.heap.size ≤ p := by rw [hp]; exact Nat.le_trans hbX.size n2.fr.size
      have hpn : p ∉ G.bs := fun hb => by
        have := hR.lt (own_bs (d := d) hb)
        omega
      have hps : p ∉ G.ps := by rw [hI.pb]; exact hpn
      have hpo : ¬ G.own d p := fun hb => by
        have := hR.lt hb
        omega
      have hR3 : Raw X3 d (G.more p c) := by
        refine Raw.reg (n2.raw.below (by rw [hX3]; exact (Below.refl _ _).alloc (Nat.le_refl _) _)) hpn ?_
        rw [hX3, hp]
        exact heap_new _ _
      have fr3 : Fr W X3 S := by
        have f1 : Fr W X S := Fr.of_below hbX S
        have f2 : Fr X X2 S := n2.fr.mono (fun i _ hx => hown i hx)
        rw [hX3]
        exact (f1.trans f2 (fun _ _ h => h)).alloc _
      have hz : ¬ G.own d 0 := fun h => hV.z (hown 0 h)
      have hst3 : Stp X3 := hS.keep (fr3.block 0 hS.lt hV.z)
      have HKI : KeepIn X3 d p (G.more p c) := by
        refine ⟨hR3, by show p ∈ G.bs ++ [p]; simp, hI.km, fun y hy => hI.toInv0.no hy, hI.toInv0.moreOK hOk (by omega), hst3, fun h => ?_, hI.hp, hI.l1, ?_, ?_, ?_, ?_, ?_⟩
        · rcases own_more hpn h with h | h
          · have := hS.lt; omega
          · exact hz h
        · rw [more_key]
          show (G.ls _).length ≤ 1000
          exact Nat.le_trans (ls_len hI.toInv0 _) hI.l1
        · show G.tn.length ≤ 100000
          have h5 := hI.l3; have h6 := hI.l1; have h7 := hI.l2
          omega
        · exact Nat.le_trans hI.l4 hI.l1
        · exact Nat.le_trans hI.l5 hI.l1
        · rw [more_new.1]; exact hk
      have dK := hide (keep_any HKI)
      have HOUT : Hid (∀ w', KeptOut X3 w' d p (G.more p c) → InvOut W w' d S C A g c) := fun w' ⟨G', ho⟩ => by
        refine ⟨fun e => absurd hv e, fun _ => ?_⟩
        obtain ⟨i1, i2, i3, i4⟩ := hI.kept hps hOk (by omega) hkf hlt ho
        have hfr : Fr W w' S := fr3.trans ho.next.fr (fun i hi hx => by
          rcases own_more hpn hx with h | h
          · omega
          · exact hown i h)
        refine ⟨G'.own d, ⟨⟨G', i1, ho.next.raw, by rw [i2, hC], by rw [i3, hA], by rw [i4, hg], fun b hb => hb⟩, fun b hb => ho.next.raw.lt hb, fun hb => ?_⟩, hfr, fun b hb => ?_⟩
        · rcases ho.next.own 0 hb with h | h
          · rcases own_more hpn h with h | h
            · have := hS.lt; omega
            · exact hz h
          · have := hst3.lt; omega
        · rcases ho.next.own b hb with h | h
          · rcases own_more hpn h with h | h
            · exact .inr (by omega)
            · exact .inl (hown b h)
          · exact .inr (Nat.le_trans fr3.size h)
      have hX2b : X2.heap[bx]? = some (.cells #[.string c.key, .string c.acc, .int .i64 c.day, .int .i64 c.due, .int .i64 c.amt] 37 (0, 0)) := by rw [hX2, Below.heap_setCell _ _ _ _ hbd]; exact hXb
      have hld := run_ld37 (w := X2) (b := bx) (o := 0) (c := c) (fun i v hv => by
        rw [Nat.zero_add, cell_at hX2b]; simpa [Cl.vals] using hv)
      have z6 : X2.cell? ⟨bx, 4, none⟩ = some (.int .i64 c.amt) := by rw [cell_at hX2b]; rfl
      have z4f : X.drew.drew.frozen? ⟨d, 4, none⟩ = false := by
        show X.frozen? _ = _
        exact froz_at hRX.ob
      unfold Cl.cells at hX3
      rw [hv]
      unfold ptr at dK ⊢
      have HX2 := hide hX2; have HX3 := hide hX3; have HPP := hide hp
      clear hv hV hI hR hC hA hg hown hRX hXb hvc hlen hl hbX h1 h2 hd1 hd2 hX hbx hRD hkf hlt hinv hin0 hin1 hhas hov n2 hX2b hR3 fr3 hz hst3 HKI hps hpo hpn hpW hOk hX2 hX3 hp
      go_enter Tryd.func25, Tryd.ntmps25
      go_wp2_with fail
      rw [← unhide HXX, ← unhide HBX]
      clear HXX HBX
      refine (unhide d1 _).mono ?_
      rintro e w1 ⟨rfl, hw⟩
      rw [hw]
      clear hw w1
      go_wp2_with fail
      refine (unhide d2 _).mono ?_
      rintro e w1 ⟨rfl, hw⟩
      rw [hw]
      clear hw w1
      go_wp2_with fail
      refine wp_region_last (n := 8) (S := fun W' => W'.cell? ⟨d, 1, none⟩ = some (.map G.mb) ∧ W'.cell? ⟨bx, 0, none⟩ = some (.string c.key) ∧ (Instr.lookup 78 (.map G.mb) (.string c.key) false).run Tryd.prog W' = .ok (.pointer none) W') (by kernel_rfl) (by exact ⟨y1, y0, hlk⟩) (fun hHeld => ?_)
      refine tkW 0 ?_; refine tkW 1 ?_; refine tkW 2 ?_; refine tkN 3 ?_; refine tkW 4 ?_; refine tkN 5 ?_; refine tkN 6 ?_; refine tkW 7 ?_
      refine wpAnyL_done (by kernel_rfl) ?_
      clear hHeld hlk y1 y0
      go_wp2_with fail
      refine wp_region_last (n := 12) (S := fun W' => W'.cell? ⟨d, 4, none⟩ = some (.int .i64 G.inv) ∧ W'.cell? ⟨bx, 4, none⟩ = some (.int .i64 c.amt) ∧ W' = X.drew.drew) (by kernel_rfl) (by exact ⟨z4, z5, rfl⟩) (fun hHeld => ?_)
      refine tkW 0 ?_; refine tkW 1 ?_; refine tkW 2 ?_; refine tkN 3 ?_; refine tkW 4 ?_; refine tkN 5 ?_
      refine wpAnyL_one (i := 6) (by kernel_rfl) rfl (fun KK hK => ?_)
      go_simp
      go_wp2_with (first | (go_at_call 44; refine (unhide dA _).mono ?_; rintro e w2 ⟨rfl, hw⟩; rw [hw]; clear hw w2))
      refine hK.out _ _ (by exact ⟨z4, z5, rfl⟩) (fun hHeld => ?_)
      clear hK KK
      refine tkW 7 ?_; refine tkW 8 ?_; refine tkW 9 ?_; refine tkW 10 ?_; refine tkW 11 ?_
      refine wpAnyL_done (by kernel_rfl) ?_
      clear hHeld
      obtain ⟨Z, hZ⟩ : ∃ Z, Z = X.drew.drew := ⟨_, rfl⟩
      rw [← hZ] at z4 z4f ⊢
      have HX2' : Hid (X2 = Z.setCell ⟨d, 4, none⟩ (.int .i64 (G.inv + c.amt))) := by show _ = _; rw [hZ]; exact unhide HX2
      clear hZ
      go_upto_region 11 with fail
      rw [← unhide HX2']
      go_wp2_with fail
      rw [← unhide HX3, ← unhide HPP]
      refine (unhide dK).mono ?_
      rintro e w9 ⟨rfl, hko⟩
      have HFIN := hide (unhide HOUT w9 hko)
      clear hko
      go_wp2_with fail
      go_ret
      exact ⟨rfl, unhide HFIN⟩
end Go.Proofs.YtildpgfhahmgmaaDoor
