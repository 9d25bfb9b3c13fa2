import Derived.Test.YtcafhmlpmbkhkaaGreatDoorW09
import Derived.Test.YtcafhmlpmbkhkaaGreatDoorW10
import Derived.Test.YtcafhmlpmbkhkaaGreatDoorV04
import Derived.Test.YtcafhmlpmbkhkaaGreatDoorV01
import Derived.Test.YtcafhmlpmbkhkaaGreatDoorW04
import Derived.Test.YtcafhmlpmbkhkaaGreatDoorW27
/- The keeper's numbers: mark 151, same 158, Room 59, Kept 71. -/
namespace Go.Proofs.YtcafhmlpmbkhkaaGreatDoor.Kg
open Go Go.Shelf Go.ChangeShapes Go.WideShapes Go.ChangeAt Go.RowKit Go.Maps
set_option linter.unusedVariables false
set_option linter.unusedSimpArgs false
def mkI (k : Nat) : Int := -1000000 - (k : Int)
def mklI (n : Nat) : List Int := (List.range n).map mkI
theorem mklI_len (n : Nat) : (mklI n).length = n := by simp [mklI]
theorem mklI_get (n k : Nat) (h : k < (mklI n).length) : (mklI n)[k] = mkI k := by simp [mklI]
theorem mklI_succ (n : Nat) : mklI (n + 1) = mklI n ++ [mkI n] := by simp [mklI, List.range_succ]
set_option maxHeartbeats 2000000 in
theorem markI (k : Nat) (hk : k < 1000000) (w : World) : Calls Tryz.prog 151 #[.int .i64 700000, .int .i64 (k : Int)] w fun e w' => e = .returned (.int .i64 (mkI k)) ∧ w' = w := by
  have s0 : -9223372036854775808 ≤ -1000000 - (k : Int) := by omega
  have s1 : -1000000 - (k : Int) ≤ 9223372036854775807 := by omega
  go_enter Tryz.func151, Tryz.ntmps151
  go_wp2
  go_ret
  exact ⟨rfl, rfl⟩
set_option maxHeartbeats 2000000 in
theorem eqkI (x : Int) (w : World) : Calls Tryz.prog 158 #[.int .i64 x, .int .i64 x] w fun e w' => e = .returned (.bool true) ∧ w' = w := by
  have h : (x == x) = true := beq_self_eq_true x
  go_enter Tryz.func158, Tryz.ntmps158
  go_wp2
  go_ret
  exact ⟨rfl, rfl⟩
/-- what Room hands back -/
def RoomOutI (X : List Int) (n : Nat) (w : World) (e : Ending) (w' : World) : Prop :=
  ∃ g c, e = .returned (.slice (some ⟨g, 0, none⟩) (n + 64) c) ∧ w'.ownsRow w.heap.size 3 1 (.slice (some ⟨g, 0, none⟩) (n + 64) c) (n + 64) (kI.flat (X ++ mklI 64)) ∧ Below w.heap.size w w'
/-- the copy while marks are put behind it -/
structure RoomAtI (X : List Int) (n : Nat) (w : World) (j : Nat) (v : Value) (wr : World) : Prop where
  own : wr.ownsRow w.heap.size 3 1 v (n + j) (kI.flat (X ++ mklI j))
  bel : Below w.heap.size w wr
theorem own_lit0I (w : World) : (w.alloc (.cells #[] 3)).ownsRow w.heap.size 3 1 (.slice (some ⟨w.heap.size, 0, none⟩) 0 0) 0 (kI.flat []) := by
  refine ⟨by simp [Kd.flat], .inr ⟨w.heap.size, 0, #[], rfl, Nat.le_refl _, ?_, Nat.le_refl _, Nat.zero_le _, by simp, by simp [Kd.flat]⟩⟩
  exact heap_new w _
set_option maxRecDepth 100000 in
set_option maxHeartbeats 4000000 in
theorem roomI (X : List Int) (pp : Option Addr) (n cc : Nat) (hX : X.length = n) (hcc : pp = none → cc = 0) (hn : n ≤ 1048576) (w : World) (hL : Lies kI w pp X) :
    Calls Tryz.prog 59 #[.slice pp n cc] w fun e w' => RoomOutI X n w e w' := by
  have b0 : Below w.heap.size w (w.alloc (.cells #[] 3)) := bal (Below.refl _ w) _
  obtain ⟨p5, c5, w5, r5, o5, b5, _⟩ := run_app (K := kI) kI_ok (L := []) (M := X) 33 (own_lit0I w) b0.size pp cc hcc (hL.below b0) (by rw [hX]; omega)
  rw [hX, Nat.zero_add] at r5 o5
  rw [List.nil_append] at o5
  have HS : Hid (RoomAtI X n w 0 (.slice p5 n c5) w5) := ⟨by rw [show mklI 0 = [] from rfl, List.append_nil]; exact o5, b0.trans (b5.mono (Nat.le_refl _))⟩
  have HR5 := hide r5
  clear r5 o5 b5 b0 hL hcc hX
  go_enter Tryz.func59, Tryz.ntmps59
  go_wp2_with (at_builtin; refine wpList_append_run rfl _ _ 33 rfl _ _ _ _ rfl rfl (unhide HR5) ?_)
  go_loopw [3, 4] (fun v i wr => ∃ j : Nat, j ≤ 64 ∧ i = .int .i64 (j : Int) ∧ (∃ p' c', v = .slice p' (n + j) c') ∧ Hid (RoomAtI X n w j v wr)) (fun _ i _ => 64 - (intOf i).toNat)
  case atStart => exact ⟨0, by omega, rfl, ⟨_, _, rfl⟩, unhide HS⟩
  case round =>
    obtain ⟨j, hj, rfl, ⟨p7, c7, rfl⟩, HA⟩ := hrel
    have hA := unhide HA
    by_cases hlt : j < 64
    · have hI : (j : Int) < 64 := by omega
      have hmk := hide (markI j (by omega) wr)
      obtain ⟨O, hO⟩ : ∃ O, O = Obj.cells #[.int .i64 (mkI j)] 3 := ⟨_, rfl⟩
      have hba := bal (Below.refl wr.heap.size wr) O
      obtain ⟨p', c', w', r, o, b, _⟩ := run_app (K := kI) kI_ok (M := [mkI j]) 33 (W := wr.alloc O) (row_keep hA.own fun q hq => hba.block q (hA.own.lt q hq).2) (Nat.le_trans hA.bel.size hba.size) (some ⟨wr.heap.size, 0, none⟩) 1 (fun h => by cases h) (by rw [hO]; exact one_lies wr (mkI j) 3 _ rfl) (by rw [List.length_singleton]; omega)
      simp only [List.length_singleton] at r o
      have HREL : Hid (RoomAtI X n w (j + 1) (.slice p' (n + j + 1) c') w') := by
        refine ⟨?_, (hA.bel.trans (hba.mono hA.bel.size)).trans b⟩
        rw [mklI_succ, ← List.append_assoc]
        exact o
      have HR := hide r
      clear hA r o b hba
      subst hO
      go_wp2_with (first | (go_at_call 151; refine (unhide hmk).mono ?_; rintro e wz ⟨rfl, hwz⟩; rw [hwz]; clear hwz wz) | (at_builtin; refine wpList_append_run rfl _ _ 33 rfl _ _ _ _ rfl rfl (unhide HR) ?_))
      exact ⟨⟨j + 1, by omega, by go_num, ⟨_, _, rfl⟩, unhide HREL⟩, by simp [intOf]; omega⟩
    · have hj64 : j = 64 := by omega
      subst hj64
      have HF : Hid (∀ e, e = Ending.returned (.slice p7 (n + 64) c7) → RoomOutI X n w e wr) := fun e he => by
        obtain ⟨g, c, hv⟩ := own_open hA.own (by omega)
        injection hv with h1 _ h2
        subst h1 h2
        exact ⟨g, c7, he, hA.own, hA.bel⟩
      clear hA
      go_wp2_with fail
      go_ret
      exact unhide HF _ rfl
theorem ldBI {w : World} {p : Option Addr} {L : List Int} (h : Lies kI w p L) {k : Nat} (hk : k < L.length) : ∃ b o, p = some ⟨b, o, none⟩ ∧ ∀ W, Below w.heap.size w W → W.cell? ⟨b, o + k, none⟩ = some (.int .i64 L[k]) := by
  obtain ⟨b, o, e, hb, hr⟩ := h.2 k hk
  refine ⟨b, o, e, fun W hW => ?_⟩
  have := keep1 hW hb (hr 0 (.int .i64 L[k]) rfl)
  simpa [kI] using this
set_option maxRecDepth 100000 in
set_option maxHeartbeats 8000000 in
theorem keptI (X : List Int) (pp pg : Option Addr) (n cc c : Nat) (hX : X.length = n) (hn : n ≤ 4611686018427387904) (w : World) (hL : Lies kI w pp X) (hG : Lies kI w pg (X ++ mklI 64)) :
    Calls Tryz.prog 71 #[.slice pg (n + 64) c, .slice pp n cc] w fun e w' => e = .returned (.bool true) ∧ Below w.heap.size w w' := by
  have HL := hide hL; have HG := hide hG; have HX := hide hX
  clear hL hG hX
  go_enter Tryz.func71, Tryz.ntmps71
  go_wp2_with fail
  go_loopw [5] (fun i wr => ∃ (k : Nat) (K : Int), k ≤ n + 64 ∧ i = .int .i64 K ∧ K = (k : Int) ∧ Hid (Below w.heap.size w wr)) (fun i _ => ((n : Int) + 64 - intOf i).toNat)
  case atStart => exact ⟨0, 0, by omega, rfl, rfl, Below.refl _ _⟩
  case round =>
    obtain ⟨k, K, hk, rfl, hK, HB⟩ := hrel
    have hb := unhide HB
    have HK := hide hK
    have hK0 : 0 ≤ K := by omega
    have hKt : K.toNat = k := by omega
    by_cases hlt : k < n + 64
    · have hI : K < (n : Int) + 64 := by omega
      obtain ⟨b1, o1, e1, r1⟩ := ldBI ((unhide HG).below hb) (k := k) (by rw [List.length_append, unhide HX, mklI_len]; exact hlt)
      subst e1
      by_cases hkn : k < n
      · obtain ⟨b2, o2, e2, r2⟩ := ldBI ((unhide HL).below hb) (k := k) (by rw [unhide HX]; exact hkn)
        subst e2
        rw [List.getElem_append_left (by rw [unhide HX]; exact hkn)] at r1
        obtain ⟨vx, hvx⟩ : ∃ vx, vx = X[k]'(by rw [unhide HX]; exact hkn) := ⟨_, rfl⟩
        rw [← hvx] at r1 r2
        have x0 : ∀ P : Bel wr, P.W.cell? ⟨b1, o1 + k, none⟩ = some (.int .i64 vx) := fun P => r1 P.W P.h
        have y0 : ∀ P : Bel wr, P.W.cell? ⟨b2, o2 + k, none⟩ = some (.int .i64 vx) := fun P => r2 P.W P.h
        have HSM : Hid (∀ P : Bel wr, Calls Tryz.prog 158 #[.int .i64 vx, .int .i64 vx] P.W fun e w'' => e = .returned (.bool true) ∧ ∃ q : Bel wr, w'' = q.W) := fun P =>
          (eqkI _ P.W).mono (fun e w' ⟨h1, h2⟩ => ⟨h1, P, h2⟩)
        subst hK
        have hI1 : (k : Int) < (n : Int) := by omega
        have hI2 : ¬ (n : Int) ≤ (k : Int) := by omega
        have hN2 : ¬ n ≤ k := by omega
        have hD2 : decide (n ≤ k) = false := decide_eq_false hN2
        clear r1 r2 hvx hb hk HK hKt
        go_wp2_with fail
        refine wp_region_quiet_below (by kernel_rfl) (by kernel_rfl) ?_
        repeat (go_big_quiet_step (first | (go_at_call 158; refine unhide HSM _)))
        refine wpQuiet_nil ?_
        rintro _ ⟨P, rfl⟩
        clear x0 y0
        go_wp2_with fail
        exact ⟨⟨k + 1, (k : Int) + 1, by omega, by go_num, by omega, (unhide HB).trans (P.h.mono (unhide HB).size)⟩, by simp [intOf]; omega⟩
      · obtain ⟨j, hjk⟩ : ∃ j, k = n + j := ⟨k - n, by omega⟩
        have ej : ∀ h, (X ++ mklI 64)[k]'h = mkI j := fun h => by
          have e9 : (X ++ mklI 64)[k]? = some (mkI j) := by
            rw [List.getElem?_append_right (by rw [unhide HX]; omega), unhide HX, show k - n = j by omega, List.getElem?_eq_getElem (by rw [mklI_len]; omega), mklI_get]
          rw [List.getElem?_eq_getElem h] at e9
          exact Option.some.inj e9
        rw [ej] at r1
        obtain ⟨vx, hvx⟩ : ∃ vx, vx = mkI j := ⟨_, rfl⟩
        rw [← hvx] at r1
        have x0 : ∀ P : Bel wr, P.W.cell? ⟨b1, o1 + k, none⟩ = some (.int .i64 vx) := fun P => r1 P.W P.h
        have hI1 : ¬ K < (n : Int) := by omega
        have hI2 : (n : Int) ≤ K := by omega
        have hI3 : K - (n : Int) = (j : Int) := by omega
        have hwj : IntKind.i64.wrap (j : Int) = (j : Int) := by rw [IntKind.wrap_i64]; omega
        have hwK : IntKind.i64.wrap (K - (n : Int)) = (j : Int) := by rw [hI3, hwj]
        have hD1 : decide (K < (n : Int)) = false := decide_eq_false hI1
        have hD2 : decide ((n : Int) ≤ K) = true := decide_eq_true hI2
        have HMK : Hid (∀ P : Bel wr, Calls Tryz.prog 151 #[.int .i64 700000, .int .i64 (j : Int)] P.W fun e w'' => e = .returned (.int .i64 vx) ∧ ∃ q : Bel wr, w'' = q.W) := fun P => by
          rw [hvx]
          exact (markI j (by omega) P.W).mono (fun e w' ⟨h1, h2⟩ => ⟨h1, P, h2⟩)
        have HSM : Hid (∀ P : Bel wr, Calls Tryz.prog 158 #[.int .i64 vx, .int .i64 vx] P.W fun e w'' => e = .returned (.bool true) ∧ ∃ q : Bel wr, w'' = q.W) := fun P =>
          (eqkI _ P.W).mono (fun e w' ⟨h1, h2⟩ => ⟨h1, P, h2⟩)
        clear r1 hvx hb hK hlt hk hkn hjk ej
        go_wp2_with fail
        refine wp_region_quiet_below (by kernel_rfl) (by kernel_rfl) ?_
        repeat (go_big_quiet_step (first | (go_at_call 158; refine unhide HSM _) | (go_at_call 151; refine unhide HMK _)))
        refine wpQuiet_nil ?_
        rintro _ ⟨P, rfl⟩
        clear x0
        go_wp2_with fail
        exact ⟨⟨k + 1, K + 1, by have := unhide HK; omega, by go_num, by have := unhide HK; omega, (unhide HB).trans (P.h.mono (unhide HB).size)⟩, by have := unhide HK; simp [intOf]; omega⟩
    · have hI : ¬ K < (n : Int) + 64 := by omega
      clear hb hK
      go_wp2_with fail
      go_ret
      exact ⟨rfl, unhide HB⟩
end Go.Proofs.YtcafhmlpmbkhkaaGreatDoor.Kg
/- The keeper's rows: mark 153, same 159, Room 61, Kept 72. -/
namespace Go.Proofs.YtcafhmlpmbkhkaaGreatDoor.Kg
open Go Go.Shelf Go.ChangeShapes Go.WideShapes Go.ChangeAt Go.RowKit Go.Maps
set_option linter.unusedVariables false
set_option linter.unusedSimpArgs false
/-- a mark's block -/
def mkO (k : Nat) : Obj := .cells #[.int .i64 (-700001), .int .i64 (-(k : Int) - 1), .string ⟨#[]⟩] 43
set_option maxHeartbeats 2000000 in
theorem markR (k : Nat) (hk : k < 1000000) (w : World) : Calls Tryz.prog 153 #[.int .i64 700000, .int .i64 (k : Int)] w fun e w' => e = .returned (.slice (some ⟨w.heap.size, 0, none⟩) 1 1) ∧ w' = w.alloc (mkO k) := by
  have s0 : -9223372036854775808 ≤ -(k : Int) := by omega
  have s1 : -(k : Int) ≤ 9223372036854775807 := by omega
  have s2 : -9223372036854775808 ≤ -(k : Int) - 1 := by omega
  have s3 : -(k : Int) - 1 ≤ 9223372036854775807 := by omega
  go_enter Tryz.func153, Tryz.ntmps153
  go_wp2_with fail
  go_ret
  exact ⟨rfl, rfl⟩
/-- marks where they lie -/
def MkR (W : World) (MR : List Rw) : Prop := ∀ (j : Nat) r, MR[j]? = some r → r.n = 1 ∧ r.c = 1 ∧ r.x = [mkC 700000 j] ∧ ∃ g, r.p = some ⟨g, 0, none⟩ ∧ W.heap[g]? = some (mkO j)
theorem MkR.below {W W' : World} {MR : List Rw} (h : MkR W MR) (hb : Below W.heap.size W W') : MkR W' MR := fun j r hr => by
  obtain ⟨h1, h2, h3, g, h4, h5⟩ := h j r hr
  exact ⟨h1, h2, h3, g, h4, (hb.block g (Array.getElem?_eq_some_iff.1 h5).1).trans h5⟩
theorem mk_lies {W : World} {g j : Nat} (h : W.heap[g]? = some (mkO j)) : Lies kC W (some ⟨g, 0, none⟩) [mkC 700000 j] := by
  refine ⟨(fun e => by cases e), fun k hk => ⟨g, 0, rfl, (Array.getElem?_eq_some_iff.1 h).1, fun i u hu => ?_⟩⟩
  have hk0 : k = 0 := by simp at hk; exact hk
  subst hk0
  unfold mkO at h
  rw [show 0 + 0 * kC.s + i = i by omega, cell_at h]
  have hu' : [Value.int .i64 (-((700000 : Nat) : Int) - 1), .int .i64 (-(j : Int) - 1), .string ⟨#[]⟩][i]? = some u := hu
  simpa using hu'
theorem MkR.rw {W : World} {MR : List Rw} (h : MkR W MR) : RwAt W MR := fun r hr => by
  obtain ⟨j, hj⟩ := List.mem_iff_getElem?.1 hr
  obtain ⟨h1, h2, h3, g, h4, h5⟩ := h j r hj
  refine ⟨by rw [h1, h3]; rfl, ?_⟩
  rw [h4, h3]
  exact mk_lies h5
/-- what Room hands back -/
def RoomOutR (X : List Rw) (n : Nat) (w : World) (e : Ending) (w' : World) : Prop :=
  ∃ g c MR, e = .returned (.slice (some ⟨g, 0, none⟩) (n + 64) c) ∧ MR.length = 64 ∧ MkR w' MR ∧ w'.ownsRow w.heap.size 41 1 (.slice (some ⟨g, 0, none⟩) (n + 64) c) (n + 64) (kW.flat (X ++ MR)) ∧ Below w.heap.size w w'
/-- the copy while marks are put behind it -/
structure RoomAtR (X : List Rw) (n : Nat) (w : World) (j : Nat) (v : Value) (MR : List Rw) (wr : World) : Prop where
  own : wr.ownsRow w.heap.size 41 1 v (n + j) (kW.flat (X ++ MR))
  bel : Below w.heap.size w wr
  len : MR.length = j
  mks : MkR wr MR
theorem own_lit0R (w : World) : (w.alloc (.cells #[] 41)).ownsRow w.heap.size 41 1 (.slice (some ⟨w.heap.size, 0, none⟩) 0 0) 0 (kW.flat []) := by
  refine ⟨by simp [Kd.flat], .inr ⟨w.heap.size, 0, #[], rfl, Nat.le_refl _, ?_, Nat.le_refl _, Nat.zero_le _, by simp, by simp [Kd.flat]⟩⟩
  exact heap_new w _
set_option maxRecDepth 100000 in
set_option maxHeartbeats 4000000 in
theorem roomR (X : List Rw) (pp : Option Addr) (n cc : Nat) (hX : X.length = n) (hcc : pp = none → cc = 0) (hn : n ≤ 1048576) (w : World) (hL : Lies kW w pp X) :
    Calls Tryz.prog 61 #[.slice pp n cc] w fun e w' => RoomOutR X n w e w' := by
  have b0 : Below w.heap.size w (w.alloc (.cells #[] 41)) := bal (Below.refl _ w) _
  obtain ⟨p5, c5, w5, r5, o5, b5, _⟩ := run_app (K := kW) kW_ok (L := []) (M := X) 34 (own_lit0R w) b0.size pp cc hcc (hL.below b0) (by rw [hX]; omega)
  rw [hX, Nat.zero_add] at r5 o5
  rw [List.nil_append] at o5
  have HS : Hid (RoomAtR X n w 0 (.slice p5 n c5) [] w5) := ⟨by rw [List.append_nil]; exact o5, b0.trans (b5.mono (Nat.le_refl _)), rfl, fun j r hr => by simp at hr⟩
  have HR5 := hide r5
  clear r5 o5 b5 b0 hL hcc hX
  go_enter Tryz.func61, Tryz.ntmps61
  go_wp2_with (at_builtin; refine wpList_append_run rfl _ _ 34 rfl _ _ _ _ rfl rfl (unhide HR5) ?_)
  go_loopw [3, 4] (fun v i wr => ∃ j : Nat, j ≤ 64 ∧ i = .int .i64 (j : Int) ∧ (∃ p' c', v = .slice p' (n + j) c') ∧ Hid (∃ MR, RoomAtR X n w j v MR wr)) (fun _ i _ => 64 - (intOf i).toNat)
  case atStart => exact ⟨0, by omega, rfl, ⟨_, _, rfl⟩, _, unhide HS⟩
  case round =>
    obtain ⟨j, hj, rfl, ⟨p7, c7, rfl⟩, HA⟩ := hrel
    obtain ⟨MR, hA⟩ := unhide HA
    by_cases hlt : j < 64
    · have hI : (j : Int) < 64 := by omega
      have hmk := hide (markR j (by omega) wr)
      obtain ⟨W1, hW1⟩ : ∃ W, W = wr.alloc (mkO j) := ⟨_, rfl⟩
      obtain ⟨O, hO⟩ : ∃ O, O = Obj.cells #[.slice (some ⟨wr.heap.size, 0, none⟩) 1 1] 41 := ⟨_, rfl⟩
      have hb1 : Below wr.heap.size wr W1 := by rw [hW1]; exact bal (Below.refl _ _) _
      have hba : Below W1.heap.size W1 (W1.alloc O) := bal (Below.refl _ _) O
      have hb1a := hb1.trans (hba.mono hb1.size)
      have hh : W1.heap[wr.heap.size]? = some (mkO j) := by rw [hW1]; exact heap_new _ _
      have hha := (hba.block _ (Array.getElem?_eq_some_iff.1 hh).1).trans hh
      have hoa := own_below hA.own hb1a
      obtain ⟨p', c', w', r, o, b, k1, _⟩ := run_app (K := kW) kW_ok (M := [(⟨some ⟨wr.heap.size, 0, none⟩, 1, 1, [mkC 700000 j]⟩ : Rw)]) 34 (W := W1.alloc O) hoa (Nat.le_trans hA.bel.size hb1a.size) (some ⟨W1.heap.size, 0, none⟩) 1 (fun h => by cases h) (by rw [hO]; exact one_lies W1 (⟨some ⟨wr.heap.size, 0, none⟩, 1, 1, [mkC 700000 j]⟩ : Rw) 41 _ rfl) (by rw [List.length_singleton]; omega)
      simp only [List.length_singleton] at r o
      have hkeep : ∀ (g i : Nat), (W1.alloc O).heap[g]? = some (mkO i) → w'.heap[g]? = some (mkO i) := fun g i hg => by
        refine (k1 g (Array.getElem?_eq_some_iff.1 hg).1 ?_).trans hg
        unfold mkO at hg
        exact not_own hoa hg (by decide)
      have HREL : Hid (∃ MR, RoomAtR X n w (j + 1) (.slice p' (n + j + 1) c') MR w') := by
        refine ⟨MR ++ [(⟨some ⟨wr.heap.size, 0, none⟩, 1, 1, [mkC 700000 j]⟩ : Rw)], ?_, (hA.bel.trans (hb1a.mono hA.bel.size)).trans b, by simp [hA.len], fun i q hq => ?_⟩
        · rw [← List.append_assoc]
          exact o
        · by_cases hi : i < j
          · rw [List.getElem?_append_left (by rw [hA.len]; exact hi)] at hq
            obtain ⟨h1, h2, h3, g, h4, h5⟩ := (hA.mks.below hb1a) i q hq
            exact ⟨h1, h2, h3, g, h4, hkeep g i h5⟩
          · have hij : i = j := by
              have := (List.getElem?_eq_some_iff.1 hq).1
              rw [List.length_append, List.length_singleton, hA.len] at this
              omega
            subst hij
            rw [List.getElem?_append_right (by rw [hA.len]; exact Nat.le_refl _), hA.len, Nat.sub_self] at hq
            cases hq
            exact ⟨rfl, rfl, rfl, _, rfl, hkeep _ _ hha⟩
      have HR := hide r
      rw [← hW1] at hmk
      clear hA r o b k1 hba hb1 hb1a hh hha hoa hkeep hW1
      subst hO
      go_wp2_with (first | (go_at_call 153; refine (unhide hmk).mono ?_; rintro e wz ⟨rfl, hwz⟩; rw [hwz]; clear hwz wz) | (at_builtin; refine wpList_append_run rfl _ _ 34 rfl _ _ _ _ rfl rfl (unhide HR) ?_))
      exact ⟨⟨j + 1, by omega, by go_num, ⟨_, _, rfl⟩, unhide HREL⟩, by simp [intOf]; omega⟩
    · have hj64 : j = 64 := by omega
      subst hj64
      have HF : Hid (∀ e, e = Ending.returned (.slice p7 (n + 64) c7) → RoomOutR X n w e wr) := fun e he => by
        obtain ⟨g, c, hv⟩ := own_open hA.own (by omega)
        injection hv with h1 _ h2
        subst h1 h2
        exact ⟨g, c7, MR, he, hA.len, hA.mks, hA.own, hA.bel⟩
      clear hA
      go_wp2_with fail
      go_ret
      exact unhide HF _ rfl
end Go.Proofs.YtcafhmlpmbkhkaaGreatDoor.Kg
/- The keeper's rows: same 159, Kept 72. -/
namespace Go.Proofs.YtcafhmlpmbkhkaaGreatDoor.Kg
open Go Go.Shelf Go.ChangeShapes Go.WideShapes Go.ChangeAt Go.RowKit Go.Maps
set_option linter.unusedVariables false
set_option linter.unusedSimpArgs false
attribute [local go_sem ↓] ldC_is
theorem eqC (x : Ce) (w : World) : (Op.equalIn 10000 43 (cvC x) (cvC x)).run Tryz.prog w = .ok true w := by
  have sd : Tryz.prog.underlying 43 = some (.struct (Tryz.prog.fieldsOf 43)) := by kernel_rfl
  have sh : Tryz.prog.stoodInHeld 43 = false := by kernel_rfl
  unfold cvC
  rw [run_equalIn_agg w 9999 43 _ _ sd sh]
  have fl : (Tryz.prog.fieldsOf 43).toList.map (fun f => (f.type, f.offset, f.name == "_")) = [(3, 0, false), (2, 1, false), (9, 2, false)] := by kernel_rfl
  obtain ⟨f0, f1, f2, hf⟩ : ∃ f0 f1 f2, (Tryz.prog.fieldsOf 43).toList = [f0, f1, f2] := by
    have h := congrArg List.length fl
    rw [List.length_map] at h
    match hq : (Tryz.prog.fieldsOf 43).toList, h with
    | [f0, f1, f2], _ => exact ⟨f0, f1, f2, rfl⟩
  have h := fl
  rw [hf] at h ⊢
  simp at h
  simp [Op.eqFields, go_sem, h, Tryz.underlying9, Tryz.underlying2, Tryz.underlying3, Tryz.underlying4]
set_option maxRecDepth 100000 in
set_option maxHeartbeats 4000000 in
theorem sameR {w : World} {pa pb : Option Addr} {n ca cb : Nat} {A : List Ce} (hA : A.length = n) (hLa : Lies kC w pa A) (hLb : Lies kC w pb A) :
    Calls Tryz.prog 159 #[.slice pa n ca, .slice pb n cb] w fun e w' => e = .returned (.bool true) ∧ Below w.heap.size w w' := by
  have eg : Tryz.prog.eqGuardType Tryz.prog.depth 43 = false := by kernel_rfl
  by_cases h0 : n = 0
  · subst h0
    have HB : Hid (∀ q, Below w.heap.size w (w.drewN q)) := fun q => below_drewN (Below.refl _ _) q
    clear hA hLa hLb eg
    go_enter Tryz.func159, Tryz.ntmps159
    go_upto_region 1 with fail
    go_quiet (fail)
    go_wp2_with fail
    go_ret
    exact ⟨rfl, unhide HB _⟩
  · obtain ⟨b1, o1, e1, hb1, hr1⟩ := hLa.2 0 (by omega)
    obtain ⟨b2, o2, e2, hb2, hr2⟩ := hLb.2 0 (by omega)
    subst e1 e2
    obtain ⟨x, hx⟩ : ∃ x, x = A[0]'(by omega) := ⟨_, rfl⟩
    rw [← hx] at hr1 hr2
    have x1 : ∀ P : Bel w, (ldC (.pointer (some ⟨b1, o1, none⟩))).run Tryz.prog P.W = .ok (cvC x) P.W := fun P => run_ldC (fun j u hu => by have := keep1 P.h hb1 (hr1 j u hu); simpa using this)
    have x2 : ∀ P : Bel w, (ldC (.pointer (some ⟨b2, o2, none⟩))).run Tryz.prog P.W = .ok (cvC x) P.W := fun P => run_ldC (fun j u hu => by have := keep1 P.h hb2 (hr2 j u hu); simpa using this)
    have x3 : ∀ W, (Op.equalIn 10000 43 (cvC x) (cvC x)).run Tryz.prog W = .ok true W := fun W => eqC x W
    unfold cvC at x1 x2 x3
    obtain ⟨N, hN⟩ : ∃ N : Int, N = (n : Int) := ⟨_, rfl⟩
    have hn1 : (0 : Int) < (n : Int) := by omega
    have hq0 : ((n : Int) == 0) = false := beq_eq_false_iff_ne.2 (by omega)
    have hn0 : 0 < n := by omega
    have hd0 : decide (n = 0) = false := decide_eq_false h0
    clear hA hLa hLb hr1 hr2 hb1 hb2 hx hN N
    go_enter Tryz.func159, Tryz.ntmps159
    go_upto_region 1 with fail
    refine wp_region_quiet_below (by kernel_rfl) (by kernel_rfl) ?_
    repeat (go_big_quiet_step (fail))
    refine wpQuiet_nil ?_
    rintro _ ⟨P, rfl⟩
    have HP := hide P.h
    clear x1 x2 x3
    go_wp2_with fail
    go_ret
    exact ⟨rfl, unhide HP⟩
theorem ldBR {w : World} {p : Option Addr} {L : List Rw} (h : Lies kW w p L) {k : Nat} {r : Rw} (hk : L[k]? = some r) : ∃ b o, p = some ⟨b, o, none⟩ ∧ ∀ W, Below w.heap.size w W → W.cell? ⟨b, o + k, none⟩ = some (.slice r.p r.n r.c) := by
  obtain ⟨hl, he⟩ := List.getElem?_eq_some_iff.1 hk
  obtain ⟨b, o, e, hb, hr⟩ := h.2 k hl
  refine ⟨b, o, e, fun W hW => ?_⟩
  have := keep1 hW hb (hr 0 (.slice r.p r.n r.c) (by rw [he]; rfl))
  simpa [kW] using this
set_option maxRecDepth 100000 in
set_option maxHeartbeats 8000000 in
theorem keptR (Y X MR : List Rw) (pp pg : Option Addr) (n cc c : Nat) (hX : X.length = n) (hY : Y.length = n) (hYX : ∀ (k : Nat) y x, Y[k]? = some y → X[k]? = some x → y.x = x.x) (hMR : MR.length = 64) (hn : n ≤ 4611686018427387904) (w : World) (hL : Lies kW w pp X) (hG : Lies kW w pg (Y ++ MR)) (hRX : RwAt w X) (hRY : RwAt w Y) (hM : MkR w MR) :
    Calls Tryz.prog 72 #[.slice pg (n + 64) c, .slice pp n cc] w fun e w' => e = .returned (.bool true) ∧ Below w.heap.size w w' := by
  have HL := hide hL; have HG := hide hG; have HX := hide hX; have HY := hide hY; have HYX := hide hYX; have HMR := hide hMR; have HRX := hide hRX; have HRY := hide hRY; have HM := hide hM
  clear hL hG hX hY hYX hMR hRX hRY hM
  go_enter Tryz.func72, Tryz.ntmps72
  go_wp2_with fail
  go_loopw [5] (fun i wr => ∃ (k : Nat) (K : Int), k ≤ n + 64 ∧ i = .int .i64 K ∧ K = (k : Int) ∧ Hid (Below w.heap.size w wr)) (fun i _ => ((n : Int) + 64 - intOf i).toNat)
  case atStart => exact ⟨0, 0, by omega, rfl, rfl, Below.refl _ _⟩
  case round =>
    obtain ⟨k, K, hk, rfl, hK, HB⟩ := hrel
    have hb := unhide HB
    have HK := hide hK
    have hK0 : 0 ≤ K := by omega
    have hKt : K.toNat = k := by omega
    by_cases hlt : k < n + 64
    · have hI : K < (n : Int) + 64 := by omega
      by_cases hkn : k < n
      · obtain ⟨y, hy⟩ : ∃ y, Y[k]? = some y := ⟨Y[k]'(by rw [unhide HY]; exact hkn), List.getElem?_eq_getElem _⟩
        obtain ⟨x, hx⟩ : ∃ x, X[k]? = some x := ⟨X[k]'(by rw [unhide HX]; exact hkn), List.getElem?_eq_getElem _⟩
        obtain ⟨b1, o1, e1, r1⟩ := ldBR ((unhide HG).below hb) (k := k) (r := y) (by rw [List.getElem?_append_left (by rw [unhide HY]; exact hkn)]; exact hy)
        obtain ⟨b2, o2, e2, r2⟩ := ldBR ((unhide HL).below hb) hx
        subst e1 e2
        have exy := unhide HYX k y x hy hx
        have hay := (unhide HRY) y (List.mem_of_getElem? hy)
        have hax := (unhide HRX) x (List.mem_of_getElem? hx)
        have enn : y.n = x.n := by rw [← hay.1, ← hax.1, exy]
        have x0 : ∀ P : Bel wr, P.W.cell? ⟨b1, o1 + k, none⟩ = some (.slice y.p y.n y.c) := fun P => r1 P.W P.h
        have y0 : ∀ P : Bel wr, P.W.cell? ⟨b2, o2 + k, none⟩ = some (.slice x.p x.n x.c) := fun P => r2 P.W P.h
        have HSM : Hid (∀ P : Bel wr, Calls Tryz.prog 159 #[.slice y.p y.n y.c, .slice x.p x.n x.c] P.W fun e w'' => e = .returned (.bool true) ∧ ∃ q : Bel wr, w'' = q.W) := fun P => by
          rw [← enn]
          have hbp := hb.trans (P.h.mono hb.size)
          exact (sameR (A := y.x) hay.1 (hay.2.below hbp) (by rw [exy]; exact hax.2.below hbp)).mono (fun e w' ⟨h1, h2⟩ => ⟨h1, ⟨w', P.h.trans (h2.mono P.h.size)⟩, rfl⟩)
        subst hK
        have hI1 : (k : Int) < (n : Int) := by omega
        have hI2 : ¬ (n : Int) ≤ (k : Int) := by omega
        have hN2 : ¬ n ≤ k := by omega
        have hD2 : decide (n ≤ k) = false := decide_eq_false hN2
        clear r1 r2 hb hk HK hKt hay hax enn exy hx hy
        go_wp2_with fail
        refine wp_region_quiet_below (by kernel_rfl) (by kernel_rfl) ?_
        repeat (go_big_quiet_step (first | (go_at_call 159; refine unhide HSM _)))
        refine wpQuiet_nil ?_
        rintro _ ⟨P, rfl⟩
        clear x0 y0
        go_wp2_with fail
        exact ⟨⟨k + 1, (k : Int) + 1, by omega, by go_num, by omega, (unhide HB).trans (P.h.mono (unhide HB).size)⟩, by simp [intOf]; omega⟩
      · obtain ⟨j, hjk⟩ : ∃ j, k = n + j := ⟨k - n, by omega⟩
        obtain ⟨y, hy⟩ : ∃ y, MR[j]? = some y := ⟨MR[j]'(by rw [unhide HMR]; omega), List.getElem?_eq_getElem _⟩
        obtain ⟨b1, o1, e1, r1⟩ := ldBR ((unhide HG).below hb) (k := k) (r := y) (by rw [List.getElem?_append_right (by rw [unhide HY]; omega), unhide HY, show k - n = j by omega]; exact hy)
        obtain ⟨h1, h2, h3, g, h4, h5⟩ := (unhide HM) j y hy
        rw [h1, h2, h4] at r1
        subst e1
        have HGM : Hid (∀ W, Below w.heap.size w W → Lies kC W (some ⟨g, 0, none⟩) [mkC 700000 j]) := fun W hW => (mk_lies h5).below hW
        have hI1 : ¬ K < (n : Int) := by omega
        have hI2 : (n : Int) ≤ K := by omega
        have hI3 : K - (n : Int) = (j : Int) := by omega
        have hwj : IntKind.i64.wrap (j : Int) = (j : Int) := by rw [IntKind.wrap_i64]; omega
        have hwK : IntKind.i64.wrap (K - (n : Int)) = (j : Int) := by rw [hI3, hwj]
        have hD1 : decide (K < (n : Int)) = false := decide_eq_false hI1
        have hD2 : decide ((n : Int) ≤ K) = true := decide_eq_true hI2
        have HR1 : Hid (∀ W, Below wr.heap.size wr W → W.cell? ⟨b1, o1 + k, none⟩ = some (.slice (some ⟨g, 0, none⟩) 1 1)) := r1
        have hj64 : j < 64 := by omega
        clear r1 hb hK hlt hk hkn hjk h1 h2 h3 h4 h5 hy
        go_upto_region 6 with fail
        have hs0 := unhide HR1 wr.drew (below_drewN (Below.refl _ _) 1)
        refine wp_region_last (n := 35) (S := fun W => W.cell? ⟨b1, o1 + k, none⟩ = some (.slice (some ⟨g, 0, none⟩) 1 1)) (by kernel_rfl) hs0 (fun hHeld => ?_)
        clear hs0
        refine tkW 0 ?_; refine tkW 1 ?_; refine tkW 2 ?_; refine tkW 3 ?_; refine tkW 4 ?_
        refine tkX 5 ?_; refine tkX 6 ?_; refine tkX 7 ?_; refine tkX 8 ?_; refine tkX 9 ?_; refine tkX 10 ?_; refine tkX 11 ?_; refine tkX 12 ?_; refine tkX 13 ?_; refine tkX 14 ?_
        refine tkW 15 ?_; refine tkW 16 ?_; refine tkW 17 ?_; refine tkW 18 ?_; refine tkW 19 ?_; refine tkW 20 ?_; refine tkW 21 ?_; refine tkW 22 ?_; refine tkW 23 ?_; refine tkW 24 ?_
        refine tkN 25 ?_ (hy := by (refine Or.inl ⟨by rfl, ?_⟩; intro W hSW; have hA : W.cell? ⟨b1, o1 + k, none⟩ = some (.slice (some ⟨g, 0, none⟩) 1 1) := hSW; go_simp; try with_reducible rfl))
        refine tkW 26 ?_; refine tkW 27 ?_; refine tkW 28 ?_; refine tkW 29 ?_
        clear hHeld
        have DM : Hid (Calls Tryz.prog 153 #[.int .i64 700000, .int .i64 (j : Int)] (wr.drewN 1) fun e w' => e = .returned (.slice (some ⟨wr.heap.size, 0, none⟩) 1 1) ∧ Below wr.heap.size wr w' ∧ w'.heap[wr.heap.size]? = some (mkO j)) := by
          refine (markR j (by omega) (wr.drewN 1)).mono ?_
          rintro e w' ⟨rfl, rfl⟩
          refine ⟨rfl, bal (below_drewN (Below.refl _ _) 1) _, heap_new (wr.drewN 1) _⟩
        refine wpAnyL_one (i := 30) (by kernel_rfl) rfl (fun KK hKK => ?_)
        go_simp
        go_wp2_with (go_at_call 153; refine (unhide DM).mono ?_; rintro e w2 ⟨rfl, hb2, hh2⟩)
        have DS := hide (sameR (w := w2) (ca := 1) (cb := 1) (n := 1) (A := [mkC 700000 j]) rfl ((unhide HGM) w2 ((unhide HB).trans (hb2.mono (unhide HB).size))) (mk_lies hh2))
        have HB2 := hide hb2
        refine hKK.out _ _ (unhide HR1 w2 hb2) (fun hHeld => ?_)
        clear hKK KK hb2 hh2 DM
        refine wpAnyL_one (i := 31) (by kernel_rfl) rfl (fun KK hKK => ?_)
        go_simp
        go_wp2_with (go_at_call 159; refine (unhide DS).mono ?_; rintro e w3 ⟨rfl, hb3⟩)
        have hb23 : Below wr.heap.size wr w3 := (unhide HB2).trans (hb3.mono (unhide HB2).size)
        have HB3 := hide hb23
        refine hKK.out _ _ (unhide HR1 w3 hb23) (fun hHeld => ?_)
        clear hKK KK hb3 hb23 DS
        refine tkW 32 ?_; refine tkW 33 ?_; refine tkW 34 ?_
        clear hHeld
        refine wpAnyL_done (by kernel_rfl) ?_
        go_wp2_with fail
        exact ⟨⟨k + 1, K + 1, by have := unhide HK; omega, by go_num, by have := unhide HK; omega, (unhide HB).trans ((unhide HB3).mono (unhide HB).size)⟩, by have := unhide HK; simp [intOf]; omega⟩
    · have hI : ¬ K < (n : Int) + 64 := by omega
      clear hb hK
      go_wp2_with fail
      go_ret
      exact ⟨rfl, unhide HB⟩
end Go.Proofs.YtcafhmlpmbkhkaaGreatDoor.Kg
/- Tables with room behind their lists: what lies where. -/
namespace Go.Proofs.YtcafhmlpmbkhkaaGreatDoor
open Go Go.Shelf Go.ChangeShapes Go.WideShapes Go.ChangeAt Go.RowKit Go.Maps
set_option linter.unusedVariables false
set_option linter.unusedSimpArgs false
/-- a table's value -/
def tbV (pt : Option Addr) (nt ct : Nat) (pr : Option Addr) (nr cr : Nat) : Value := .agg #[.slice pt nt ct, .slice pr nr cr]
def tbO (pt : Option Addr) (nt ct : Nat) (pr : Option Addr) (nr cr : Nat) : Obj := .cells #[.slice pt nt ct, .slice pr nr cr] 36
def ldT (x : Value) : Sem Value := Instr.loadAt 36 x
theorem ldT_is (x : Value) : Instr.loadAt 36 x = ldT x := rfl
theorem siz36 : (Tryz.prog.info? 36).map (·.size) = some 2 := by kernel_rfl
theorem run_ldT {w : World} {b : Nat} {pt pr : Option Addr} {nt ct nr cr : Nat} (h : w.heap[b]? = some (tbO pt nt ct pr nr cr)) : (ldT (.pointer (some ⟨b, 0, none⟩))).run Tryz.prog w = .ok (tbV pt nt ct pr nr cr) w :=
  run_loadAt_mid (P := Tryz.prog) w b 0 36 [.slice pt nt ct, .slice pr nr cr] _ (fun j u hu => by rw [Nat.zero_add, cell_at (show w.heap[b]? = some (.cells #[.slice pt nt ct, .slice pr nr cr] 36) from h)]; simpa using hu) Tryz.underlying36 rfl siz36
theorem tb_cells {W : World} {b : Nat} {pt pr : Option Addr} {nt ct nr cr : Nat} (h : W.heap[b]? = some (tbO pt nt ct pr nr cr)) : W.cell? ⟨b, 0, none⟩ = some (.slice pt nt ct) ∧ W.cell? ⟨b, 1, none⟩ = some (.slice pr nr cr) := by
  unfold tbO at h
  exact ⟨by rw [cell_at h]; rfl, by rw [cell_at h]; rfl⟩
/-- a header appended, another list beside it -/
theorem app_side {B : Nat} {W : World} {v u : Value} {n m : Nat} {L L2 : List Rw} (h : W.ownsRow B 41 1 v n (kW.flat L)) (h2 : W.ownsRow B 41 1 u m (kW.flat L2)) (hne : ∀ g, v.ownBlock = some g → u.ownBlock ≠ some g) (hB : B ≤ W.heap.size) (r : Rw) (hn : n + 1 ≤ 1099511627776) :
    ∃ p' c' w', (Builtin.append_ #[34, 34] 34 #[v, .slice (some ⟨W.heap.size, 0, none⟩) 1 1]).run Tryz.prog (W.alloc (.cells #[.slice r.p r.n r.c] 41)) = .ok (.slice p' (n + 1) c') w' ∧ w'.ownsRow B 41 1 (.slice p' (n + 1) c') (n + 1) (kW.flat (L ++ [r])) ∧
      w'.ownsRow B 41 1 u m (kW.flat L2) ∧ (∀ g, (Value.slice p' (n + 1) c').ownBlock = some g → u.ownBlock ≠ some g) ∧ Below B W w' ∧ (∀ (k : Nat) (ys : Array Value) (t : TypeId) (f : Nat × Nat), W.heap[k]? = some (Obj.cells ys t f) → t ≠ 41 → w'.heap[k]? = W.heap[k]?) := by
  obtain ⟨O, hO⟩ : ∃ O, O = Obj.cells #[.slice r.p r.n r.c] 41 := ⟨_, rfl⟩
  have b0 : Below W.heap.size W (W.alloc O) := bal (Below.refl _ _) _
  obtain ⟨p', c', w1, r1, o1, b1, k1, q1⟩ := run_app kW_ok (L := L) (M := [r]) 34 (h.alloc O) (Nat.le_trans hB b0.size) (some ⟨W.heap.size, 0, none⟩) 1 (fun h => by cases h) (by rw [hO]; exact one_lies W r 41 _ rfl) hn
  simp only [List.length_singleton] at r1 o1 q1
  rw [hO] at r1
  refine ⟨p', c', w1, r1, o1, row_keep h2 fun g hg => ?_, fun g hg hu => ?_, (b0.mono hB).trans b1, fun k ys t f hk ht => ?_⟩
  · have hgl := (h2.lt g hg).2
    refine (k1 g (Nat.lt_of_lt_of_le hgl b0.size) (fun hv => hne g hv hg)).trans (b0.block g hgl)
  · rcases q1 with q | q
    · rw [q] at hg
      exact hne g hg hu
    · rw [q] at hg
      have hgl := (h2.lt g hu).2
      have e := Option.some.inj hg
      have := b0.size
      omega
  · have hkl := (Array.getElem?_eq_some_iff.1 hk).1
    exact (k1 k (Nat.lt_of_lt_of_le hkl b0.size) (not_own h hk ht)).trans (b0.block k hkl)
/-- a row's copy with marks behind it, and the row itself in it -/
def cpc (gc : Nat × Nat) (r : Rw) : Rw := ⟨some ⟨gc.1, 0, none⟩, r.x.length + 64, gc.2, r.x ++ Kg.mklC 700000 64⟩
def cpr (gc : Nat × Nat) (r : Rw) : Rw := ⟨some ⟨gc.1, 0, none⟩, r.x.length, gc.2, r.x⟩
def cellsL (G : List (Nat × Nat)) (X : List Rw) : List Rw := List.zipWith cpc G X
def rowsL (G : List (Nat × Nat)) (X : List Rw) : List Rw := List.zipWith cpr G X
/-- the copies -/
structure Cp (B : Nat) (W : World) (X : List Rw) (G : List (Nat × Nat)) : Prop where
  len : G.length = X.length
  own : ∀ (i : Nat) gc r, G[i]? = some gc → X[i]? = some r → W.ownsRow B 43 3 (.slice (some ⟨gc.1, 0, none⟩) (r.x.length + 64) gc.2) (r.x.length + 64) (kC.flat (r.x ++ Kg.mklC 700000 64))
  ne : ∀ (i j : Nat) a b, G[i]? = some a → G[j]? = some b → i ≠ j → a.1 ≠ b.1
theorem Cp.keep {B : Nat} {W W' : World} {X : List Rw} {G : List (Nat × Nat)} (h : Cp B W X G) (hk : ∀ (k : Nat) (ys : Array Value) (f : Nat × Nat), W.heap[k]? = some (Obj.cells ys 43 f) → W'.heap[k]? = W.heap[k]?) : Cp B W' X G :=
  ⟨h.len, fun i gc r hg hr => row_keep (h.own i gc r hg hr) fun g hgb => by
    obtain ⟨ys, hy⟩ := own_obj (h.own i gc r hg hr) hgb
    exact hk g ys _ hy, h.ne⟩
theorem Cp.below {B : Nat} {W W' : World} {X : List Rw} {G : List (Nat × Nat)} (h : Cp B W X G) (hb : Below W.heap.size W W') : Cp B W' X G :=
  h.keep fun k ys f hk => hb.block k (Array.getElem?_eq_some_iff.1 hk).1
theorem own_mono {W : World} {B C e s n : Nat} {v : Value} {xs : List Value} (h : W.ownsRow B e s v n xs) (hC : C ≤ B) : W.ownsRow C e s v n xs := by
  refine ⟨h.1, ?_⟩
  rcases h.2 with h1 | ⟨g, cap, cur, e1, h2, h3⟩
  · exact .inl h1
  · exact .inr ⟨g, cap, cur, e1, Nat.le_trans hC h2, h3⟩
theorem Cp.add {B : Nat} {W : World} {X : List Rw} {G : List (Nat × Nat)} (h : Cp B W X G) {g c : Nat} {r : Rw} (hB : B ≤ W.heap.size) {W' : World} (hb : Below W.heap.size W W')
    (ho : W'.ownsRow W.heap.size 43 3 (.slice (some ⟨g, 0, none⟩) (r.x.length + 64) c) (r.x.length + 64) (kC.flat (r.x ++ Kg.mklC 700000 64))) : Cp B W' (X ++ [r]) (G ++ [(g, c)]) := by
  have hlow : ∀ (i : Nat) a, G[i]? = some a → a.1 < W.heap.size := fun i a ha => by
    have hi : i < X.length := by have := (List.getElem?_eq_some_iff.1 ha).1; rw [h.len] at this; exact this
    exact ((h.own i a X[i] ha (List.getElem?_eq_getElem hi)).lt a.1 rfl).2
  have hgh : W.heap.size ≤ g := (ho.lt g rfl).1
  refine ⟨by simp [h.len], fun i gc q hg hq => ?_, fun i j a b ha hb' hij => ?_⟩
  · by_cases hi : i < X.length
    · rw [List.getElem?_append_left (by rw [h.len]; exact hi)] at hg
      rw [List.getElem?_append_left hi] at hq
      exact own_below (h.own i gc q hg hq) hb
    · have hiX : i = X.length := by
        have := (List.getElem?_eq_some_iff.1 hq).1
        rw [List.length_append, List.length_singleton] at this
        omega
      subst hiX
      rw [List.getElem?_append_right (by rw [h.len]; exact Nat.le_refl _), h.len, Nat.sub_self] at hg
      rw [List.getElem?_append_right (Nat.le_refl _), Nat.sub_self] at hq
      cases hg
      cases hq
      exact own_mono ho hB
  · have hcase : ∀ (i : Nat) a, (G ++ [(g, c)])[i]? = some a → (G[i]? = some a ∧ i < G.length) ∨ (i = G.length ∧ a.1 = g) := fun i a ha => by
      by_cases hi : i < G.length
      · rw [List.getElem?_append_left hi] at ha
        exact .inl ⟨ha, hi⟩
      · have hiX : i = G.length := by
          have := (List.getElem?_eq_some_iff.1 ha).1
          rw [List.length_append, List.length_singleton] at this
          omega
        subst hiX
        rw [List.getElem?_append_right (Nat.le_refl _), Nat.sub_self] at ha
        cases ha
        exact .inr ⟨rfl, rfl⟩
    rcases hcase i a ha with ⟨h1, h1'⟩ | ⟨h1, h1'⟩ <;> rcases hcase j b hb' with ⟨h2, h2'⟩ | ⟨h2, h2'⟩
    · exact h.ne i j a b h1 h2 hij
    · have := hlow i a h1
      omega
    · have := hlow j b h2
      omega
    · omega
theorem cells_add {G : List (Nat × Nat)} {X : List Rw} (h : G.length = X.length) (gc : Nat × Nat) (r : Rw) : cellsL (G ++ [gc]) (X ++ [r]) = cellsL G X ++ [cpc gc r] := List.zipWith_append h
theorem rows_add {G : List (Nat × Nat)} {X : List Rw} (h : G.length = X.length) (gc : Nat × Nat) (r : Rw) : rowsL (G ++ [gc]) (X ++ [r]) = rowsL G X ++ [cpr gc r] := List.zipWith_append h
theorem cells_get {G : List (Nat × Nat)} {X : List Rw} {i : Nat} {q : Rw} (h : (cellsL G X)[i]? = some q) : ∃ gc r, G[i]? = some gc ∧ X[i]? = some r ∧ q = cpc gc r := by
  unfold cellsL at h
  rw [List.getElem?_zipWith_eq_some] at h
  obtain ⟨gc, r, h1, h2, h3⟩ := h
  exact ⟨gc, r, h1, h2, h3.symm⟩
theorem rows_get {G : List (Nat × Nat)} {X : List Rw} {i : Nat} {q : Rw} (h : (rowsL G X)[i]? = some q) : ∃ gc r, G[i]? = some gc ∧ X[i]? = some r ∧ q = cpr gc r := by
  unfold rowsL at h
  rw [List.getElem?_zipWith_eq_some] at h
  obtain ⟨gc, r, h1, h2, h3⟩ := h
  exact ⟨gc, r, h1, h2, h3.symm⟩
theorem Cp.cells {B : Nat} {W : World} {X : List Rw} {G : List (Nat × Nat)} (h : Cp B W X G) : RwAt W (cellsL G X) := fun q hq => by
  obtain ⟨i, hi⟩ := List.mem_iff_getElem?.1 hq
  obtain ⟨gc, r, h1, h2, rfl⟩ := cells_get hi
  have hl : (r.x ++ Kg.mklC 700000 64).length = r.x.length + 64 := by rw [List.length_append, Kg.mklC_len]
  exact ⟨hl, own_lies kC_ok hl (h.own i gc r h1 h2)⟩
theorem Cp.rows {B : Nat} {W : World} {X : List Rw} {G : List (Nat × Nat)} (h : Cp B W X G) : RwAt W (rowsL G X) := fun q hq => by
  obtain ⟨i, hi⟩ := List.mem_iff_getElem?.1 hq
  obtain ⟨gc, r, h1, h2, rfl⟩ := rows_get hi
  have hl : (r.x ++ Kg.mklC 700000 64).length = r.x.length + 64 := by rw [List.length_append, Kg.mklC_len]
  exact ⟨rfl, (own_lies kC_ok hl (h.own i gc r h1 h2)).take⟩
theorem rows_x {G : List (Nat × Nat)} {X : List Rw} (h : G.length = X.length) : (rowsL G X).map (·.x) = X.map (·.x) := by
  apply List.ext_getElem?
  intro i
  rw [List.getElem?_map, List.getElem?_map]
  unfold rowsL
  rw [List.getElem?_zipWith]
  by_cases hi : i < X.length
  · rw [List.getElem?_eq_getElem hi, List.getElem?_eq_getElem (show i < G.length by omega)]
    rfl
  · rw [List.getElem?_eq_none (show X.length ≤ i by omega), List.getElem?_eq_none (show G.length ≤ i by omega)]
theorem rows_len {G : List (Nat × Nat)} {X : List Rw} (h : G.length = X.length) : (rowsL G X).length = X.length := by simp [rowsL, h]
theorem cells_len {G : List (Nat × Nat)} {X : List Rw} (h : G.length = X.length) : (cellsL G X).length = X.length := by simp [cellsL, h]
end Go.Proofs.YtcafhmlpmbkhkaaGreatDoor
