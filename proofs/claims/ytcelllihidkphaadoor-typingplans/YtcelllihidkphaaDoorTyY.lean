/- typing: parts.and 57, isDaily 33, partOf 58. -/
import Derived.Test.YtcelllihidkphaaDoorTyX
namespace Go.Proofs.YtcelllihidkphaaDoor
open Go Go.Shelf Go.ChangeShapes Go.WideShapes Go.ChangeAt Go.RowKit Go.Maps
set_option linter.unusedVariables false
set_option maxRecDepth 100000
set_option maxHeartbeats 4000000
abbrev P3 := Int × Int × Int
def kP : Kd P3 := ⟨fun x => [.int .i64 x.1, .int .i64 x.2.1, .int .i64 x.2.2], 3, 98, 69, 24⟩
theorem kP_ok : KdOK kP := kd_ok (fun _ => rfl) (by decide) (fun x u hu => by simp [kP] at hu; rcases hu with rfl | rfl | rfl <;> rfl) Tryd.underlying98 (z := .agg #[.int .i64 0, .int .i64 0, .int .i64 0]) (by kernel_rfl) rfl (by decide)
def P3.val (x : P3) : Value := .agg #[.int .i64 x.1, .int .i64 x.2.1, .int .i64 x.2.2]
def m2 (n : Int) : Int := if n ≤ 2 then n else 2
def andS (x y : P3) : P3 := (m2 (x.1 + y.1), m2 (x.2.1 + y.2.1), m2 (x.2.2 + y.2.2))
def Ok3 (x : P3) : Prop := (0 ≤ x.1 ∧ x.1 ≤ 2) ∧ (0 ≤ x.2.1 ∧ x.2.1 ≤ 2) ∧ (0 ≤ x.2.2 ∧ x.2.2 ≤ 2)
theorem and_ok {x y : P3} (h : Ok3 x) (h' : Ok3 y) : Ok3 (andS x y) := by
  unfold Ok3 at *
  unfold andS m2
  simp only
  refine ⟨?_, ?_, ?_⟩ <;> split <;> omega
theorem and_any {x y : P3} (hx : Ok3 x) (hy : Ok3 y) (w : World) : Calls Tryd.prog 57 #[x.val, y.val] w fun e w' => e = .returned (andS x y).val ∧ Below w.heap.size w w' := by
  obtain ⟨a, b, c⟩ := x
  obtain ⟨d, e, f⟩ := y
  unfold Ok3 at hx hy
  simp only at hx hy
  have w1 : IntKind.i64.wrap (a + d) = a + d := by rw [IntKind.wrap_i64]; omega
  have w2 : IntKind.i64.wrap (b + e) = b + e := by rw [IntKind.wrap_i64]; omega
  have w3 : IntKind.i64.wrap (c + f) = c + f := by rw [IntKind.wrap_i64]; omega
  obtain ⟨s1, h1⟩ : ∃ s, s = a + d := ⟨_, rfl⟩
  obtain ⟨s2, h2⟩ : ∃ s, s = b + e := ⟨_, rfl⟩
  obtain ⟨s3, h3⟩ : ∃ s, s = c + f := ⟨_, rfl⟩
  have HV : Hid (andS (a, b, c) (d, e, f) = (m2 s1, m2 s2, m2 s3)) := by rw [h1, h2, h3]; rfl
  have HB : Hid (∀ o1 o2 o3, Below w.heap.size w (((w.alloc o1).alloc o2).alloc o3)) := fun o1 o2 o3 => (Below.a2 w o1 o2).alloc (by simp; omega) o3
  rw [← h1] at w1
  rw [← h2] at w2
  rw [← h3] at w3
  have g1 := h1.symm; have g2 := h2.symm; have g3 := h3.symm
  clear h1 h2 h3 hx hy
  unfold P3.val
  simp only
  have k1 : ∀ {s : Int}, s ≤ 2 → m2 s = s := fun {s} h => by unfold m2; rw [if_pos h]
  have k2 : ∀ {s : Int}, ¬ s ≤ 2 → m2 s = 2 := fun {s} h => by unfold m2; rw [if_neg h]
  rw [unhide HV]
  simp only
  clear HV
  by_cases q1 : s1 ≤ 2
  · rw [k1 q1]
    by_cases q2 : s2 ≤ 2
    · rw [k1 q2]
      by_cases q3 : s3 ≤ 2
      · rw [k1 q3]
        clear k1 k2
        go_enter Tryd.func57, Tryd.ntmps57
        go_wp2_with fail
        exact bodyPost_ret (v := .agg #[.int .i64 s1, .int .i64 s2, .int .i64 s3]) (by simp [results, Tryd.results57, go_sem]) rfl ⟨rfl, unhide HB _ _ _⟩
      · rw [k2 q3]
        have p3 : 2 < s3 := by omega
        clear k1 k2
        go_enter Tryd.func57, Tryd.ntmps57
        go_wp2_with fail
        exact bodyPost_ret (v := .agg #[.int .i64 s1, .int .i64 s2, .int .i64 2]) (by simp [results, Tryd.results57, go_sem]) rfl ⟨rfl, unhide HB _ _ _⟩
    · rw [k2 q2]
      have p2 : 2 < s2 := by omega
      by_cases q3 : s3 ≤ 2
      · rw [k1 q3]
        clear k1 k2
        go_enter Tryd.func57, Tryd.ntmps57
        go_wp2_with fail
        exact bodyPost_ret (v := .agg #[.int .i64 s1, .int .i64 2, .int .i64 s3]) (by simp [results, Tryd.results57, go_sem]) rfl ⟨rfl, unhide HB _ _ _⟩
      · rw [k2 q3]
        have p3 : 2 < s3 := by omega
        clear k1 k2
        go_enter Tryd.func57, Tryd.ntmps57
        go_wp2_with fail
        exact bodyPost_ret (v := .agg #[.int .i64 s1, .int .i64 2, .int .i64 2]) (by simp [results, Tryd.results57, go_sem]) rfl ⟨rfl, unhide HB _ _ _⟩
  · rw [k2 q1]
    have p1 : 2 < s1 := by omega
    by_cases q2 : s2 ≤ 2
    · rw [k1 q2]
      by_cases q3 : s3 ≤ 2
      · rw [k1 q3]
        clear k1 k2
        go_enter Tryd.func57, Tryd.ntmps57
        go_wp2_with fail
        exact bodyPost_ret (v := .agg #[.int .i64 2, .int .i64 s2, .int .i64 s3]) (by simp [results, Tryd.results57, go_sem]) rfl ⟨rfl, unhide HB _ _ _⟩
      · rw [k2 q3]
        have p3 : 2 < s3 := by omega
        clear k1 k2
        go_enter Tryd.func57, Tryd.ntmps57
        go_wp2_with fail
        exact bodyPost_ret (v := .agg #[.int .i64 2, .int .i64 s2, .int .i64 2]) (by simp [results, Tryd.results57, go_sem]) rfl ⟨rfl, unhide HB _ _ _⟩
    · rw [k2 q2]
      have p2 : 2 < s2 := by omega
      by_cases q3 : s3 ≤ 2
      · rw [k1 q3]
        clear k1 k2
        go_enter Tryd.func57, Tryd.ntmps57
        go_wp2_with fail
        exact bodyPost_ret (v := .agg #[.int .i64 2, .int .i64 2, .int .i64 s3]) (by simp [results, Tryd.results57, go_sem]) rfl ⟨rfl, unhide HB _ _ _⟩
      · rw [k2 q3]
        have p3 : 2 < s3 := by omega
        clear k1 k2
        go_enter Tryd.func57, Tryd.ntmps57
        go_wp2_with fail
        exact bodyPost_ret (v := .agg #[.int .i64 2, .int .i64 2, .int .i64 2]) (by simp [results, Tryd.results57, go_sem]) rfl ⟨rfl, unhide HB _ _ _⟩
theorem daily_any (x : P3) (w : World) : Calls Tryd.prog 33 #[x.val] w fun e w' => e = .returned (.bool (x.1 == 1 && (decide (0 < x.2.1) && x.2.2 == 0))) ∧ Below w.heap.size w w' := by
  obtain ⟨a, b, c⟩ := x
  have HB : Hid (∀ o, Below w.heap.size w (w.alloc o)) := Below.a1 w
  unfold P3.val
  simp only
  by_cases h1 : a = 1
  · subst h1
    by_cases h2 : b > 0
    · have h2' : decide (0 < b) = true := decide_eq_true h2
      rw [h2']
      go_enter Tryd.func33, Tryd.ntmps33
      go_wp2_with fail
      go_ret
      exact ⟨by simp, unhide HB _⟩
    · have h2' : decide (0 < b) = false := decide_eq_false h2
      rw [h2']
      go_enter Tryd.func33, Tryd.ntmps33
      go_wp2_with fail
      go_ret
      exact ⟨by simp, unhide HB _⟩
  · have h1' := beqF h1
    rw [h1']
    go_enter Tryd.func33, Tryd.ntmps33
    go_wp2_with fail
    go_ret
    exact ⟨rfl, unhide HB _⟩
/-- the sort of a part of a condition -/
def partS (L : List Nd) (k : Nat) : P3 := if twoS L k [4] 6 18 then (1, 0, 0) else if twoS L k [4, 6, 7, 8, 9] 3 19 then (0, 1, 0) else (0, 0, 1)
theorem part_ok (L : List Nd) (k : Nat) : Ok3 (partS L k) := by
  unfold partS Ok3
  split
  · simp
  · split <;> simp
/-- nodes whose parts lie ahead of them -/
def WfN (L : List Nd) : Prop := ∀ k (hk : k < L.length), (1 ≤ (L[k]).op ∧ (L[k]).op ≤ 14 ∧ (L[k]).op ≠ 3) → (0 ≤ (L[k]).left ∧ (L[k]).left < (k : Int)) ∧ (0 ≤ (L[k]).right ∧ (L[k]).right < (k : Int))
theorem ops1_lie (w : World) (x : Int) : Lies kI (w.alloc (.cells #[.int .i64 x] 3)) (some ⟨w.heap.size, 0, none⟩) [x] := one_lies w x 3 #[.int .i64 x] rfl
theorem ops5_lie (w : World) (a b c d e : Int) : Lies kI (w.alloc (.cells #[.int .i64 a, .int .i64 b, .int .i64 c, .int .i64 d, .int .i64 e] 3)) (some ⟨w.heap.size, 0, none⟩) [a, b, c, d, e] := by
  refine ⟨(fun h => by cases h), fun k hk => ⟨w.heap.size, 0, rfl, by simp, fun j u hu => ?_⟩⟩
  rw [World.cell?_alloc_mark]
  have hj : j = 0 := by
    have := (List.getElem?_eq_some_iff.1 hu).1
    simpa [kI] using this
  subst hj
  simp only [kI, List.getElem?_cons_zero, Option.some.injEq, Nat.mul_one, Nat.add_zero, Nat.zero_add] at hu ⊢
  subst hu
  match k, hk with
  | 0, _ => rfl
  | 1, _ => rfl
  | 2, _ => rfl
  | 3, _ => rfl
  | 4, _ => rfl
def st69 (x y : Value) : Sem Unit := Instr.storeAt 69 x y
theorem st69_is (x y : Value) : Instr.storeAt 69 x y = st69 x y := rfl
theorem size69 : (Tryd.prog.info? 69).map (·.size) = some 3 := by kernel_rfl
theorem run_st69 {w : World} {b : Nat} {x0 x1 x2 : Value} (h : w.heap[b]? = some (.cells #[x0, x1, x2] 69 (0, 0))) (a b' c : Int) : (st69 (.pointer (some ⟨b, 0, none⟩)) (.agg #[.int .i64 a, .int .i64 b', .int .i64 c])).run Tryd.prog w = .ok () (w.setCells b 0 [.int .i64 a, .int .i64 b', .int .i64 c]) :=
  run_storeAt_mid (P := Tryd.prog) w b 0 69 #[.int .i64 a, .int .i64 b', .int .i64 c] (fun j hj => by
    have hj' : j < 3 := hj
    have : j = 0 ∨ j = 1 ∨ j = 2 := by omega
    rcases this with rfl | rfl | rfl <;> simp [World.cell?, World.frozen?, h]) size69 (by simp [Value.oneCell'])
theorem heap_setCells3 {w : World} {b : Nat} {x0 x1 x2 v0 v1 v2 : Value} {t : TypeId} (h : w.heap[b]? = some (.cells #[x0, x1, x2] t (0, 0))) : (w.setCells b 0 [v0, v1, v2]).heap[b]? = some (.cells #[v0, v1, v2] t (0, 0)) := by
  show (((w.setCell ⟨b, 0, none⟩ _).setCell ⟨b, 0 + 1, none⟩ _).setCell ⟨b, 0 + 1 + 1, none⟩ _).heap[b]? = _
  rw [heap_set (heap_set (heap_set h))]
  rfl
attribute [local go_sem ↓] st69_is
theorem partOf_any {W : World} {p : Option Addr} {n c : Nat} {L : List Nd} (hn : L.length = n) (hL : Lies kN W p L) (hw : WfN L) {k : Nat} (hk : k < L.length) : Calls Tryd.prog 58 #[.slice p n c, .int .i64 k] W fun e w' => e = .returned (partS L k).val ∧ Below W.heap.size W w' := by
  obtain ⟨W1, hW1⟩ : ∃ X, X = W.alloc (.cells #[.int .i64 0, .int .i64 0, .int .i64 0] 69) := ⟨_, rfl⟩
  have hB1 : Below W.heap.size W W1 := by rw [hW1]; exact Below.a1 W _
  have hr0 : W1.heap[W.heap.size]? = some (.cells #[.int .i64 0, .int .i64 0, .int .i64 0] 69 (0, 0)) := by rw [hW1]; exact heap_new _ _
  have hsz : W.heap.size < W1.heap.size := by rw [hW1]; simp
  have hin : ∀ {O : List Int}, (∀ o ∈ O, 1 ≤ o ∧ o ≤ 14 ∧ o ≠ 3) → O.contains (L[k]).op = true → (0 ≤ (L[k]).left ∧ (L[k]).left < (n : Int)) ∧ (0 ≤ (L[k]).right ∧ (L[k]).right < (n : Int)) := fun {O} hO h => by
    have := hw k hk (hO _ (by simpa using h))
    omega
  have d1 := hide (two31 (W := W1.alloc (.cells #[.int .i64 4] 3)) (c := c) (co := 1) hn ((hL.below hB1).below (Below.a1 W1 _)) (O := [4]) rfl (ops1_lie W1 4) (by decide) hk (hin (fun o ho => by simp at ho; omega)))
  have d2 : Hid (∀ X, Below W1.heap.size W1 X → Calls Tryd.prog 73 #[.slice p n c, .int .i64 k, .slice (some ⟨X.heap.size, 0, none⟩) 5 5] (X.alloc (.cells #[.int .i64 4, .int .i64 6, .int .i64 7, .int .i64 8, .int .i64 9] 3)) fun e w' => e = .returned (.bool (twoS L k [4, 6, 7, 8, 9] 3 19)) ∧ Below (X.alloc (.cells #[.int .i64 4, .int .i64 6, .int .i64 7, .int .i64 8, .int .i64 9] 3)).heap.size (X.alloc (.cells #[.int .i64 4, .int .i64 6, .int .i64 7, .int .i64 8, .int .i64 9] 3)) w') := fun X h =>
    two73 (W := X.alloc (.cells #[.int .i64 4, .int .i64 6, .int .i64 7, .int .i64 8, .int .i64 9] 3)) (c := c) (co := 5) hn (((hL.below hB1).below h).below (Below.a1 X _)) (O := [4, 6, 7, 8, 9]) rfl (ops5_lie X 4 6 7 8 9) (by decide) hk (hin (fun o ho => by simp at ho; omega))
  have HB1 := hide hB1; have HSZ := hide hsz; have HR0 := hide hr0
  have HP : Hid (partS L k = if twoS L k [4] 6 18 then (1, 0, 0) else if twoS L k [4, 6, 7, 8, 9] 3 19 then (0, 1, 0) else (0, 0, 1)) := rfl
  have HUP : Hid (∀ X o, Below (W1.alloc o).heap.size (W1.alloc o) X → Below W1.heap.size W1 X) := fun X o h => (Below.a1 W1 o).trans (h.mono (by simp))
  have HST : Hid (∀ X, Below W1.heap.size W1 X → X.heap[W.heap.size]? = some (.cells #[.int .i64 0, .int .i64 0, .int .i64 0] 69 (0, 0))) := fun X h => (h.block _ (unhide HSZ)).trans (unhide HR0)
  obtain ⟨t1, ht1⟩ : ∃ t, t = twoS L k [4] 6 18 := ⟨_, rfl⟩
  obtain ⟨t2, ht2⟩ : ∃ t, t = twoS L k [4, 6, 7, 8, 9] 3 19 := ⟨_, rfl⟩
  rw [← ht1] at d1 HP
  rw [← ht2] at d2 HP
  clear ht1 ht2 hin hB1 hsz hr0 hL hn hw hk
  cases t1 with
  | true =>
    go_enter Tryd.func58, Tryd.ntmps58
    go_upto_region 1 with fail
    rw [← hW1]
    clear hW1
    go_wp2_with fail
    refine (unhide d1).mono ?_
    rintro e X1 ⟨rfl, hw⟩
    have HX1 := hide (unhide HUP _ _ hw)
    clear hw d1
    obtain ⟨X, hX⟩ : ∃ X, X = X1 := ⟨_, rfl⟩
    have HBX := HX1
    rw [← hX] at HBX ⊢
    clear hX d2
    have hs : (st69 (.pointer (some ⟨W.heap.size, 0, none⟩)) (.agg #[.int .i64 1, .int .i64 0, .int .i64 0])).run Tryd.prog X = .ok () (X.setCells W.heap.size 0 [.int .i64 1, .int .i64 0, .int .i64 0]) := run_st69 (unhide HST _ (unhide HBX)) 1 0 0
    have hy := heap_setCells3 (v0 := .int .i64 1) (v1 := .int .i64 0) (v2 := .int .i64 0) (unhide HST _ (unhide HBX))
    obtain ⟨Y, hY⟩ : ∃ Y, Y = X.setCells W.heap.size 0 [.int .i64 1, .int .i64 0, .int .i64 0] := ⟨_, rfl⟩
    rw [← hY] at hs hy
    have y0 : Y.cell? ⟨W.heap.size, 0, none⟩ = some (.int .i64 1) := by rw [cell_at hy]; rfl
    have y1 : Y.cell? ⟨W.heap.size, 1, none⟩ = some (.int .i64 0) := by rw [cell_at hy]; rfl
    have y2 : Y.cell? ⟨W.heap.size, 2, none⟩ = some (.int .i64 0) := by rw [cell_at hy]; rfl
    have HBY : Hid (Below W.heap.size W Y) := by rw [hY]; exact below_setCells (Nat.le_refl _) _ _ _ _ ((unhide HB1).trans ((unhide HBX).mono (unhide HB1).size))
    clear hy hY HST HUP
    go_wp2_with fail
    exact bodyPost_ret (v := .agg #[.int .i64 1, .int .i64 0, .int .i64 0]) (by simp [results, Tryd.results58, go_sem, *]) rfl ⟨by rw [unhide HP]; rfl, unhide HBY⟩
  | false =>
    go_enter Tryd.func58, Tryd.ntmps58
    go_upto_region 1 with fail
    rw [← hW1]
    clear hW1
    go_wp2_with fail
    refine (unhide d1).mono ?_
    rintro e X1 ⟨rfl, hw⟩
    have HX1 := hide (unhide HUP _ _ hw)
    clear hw d1
    have d3 := hide (unhide d2 _ (unhide HX1))
    have HUP2 : Hid (∀ o Y, Below (X1.alloc o).heap.size (X1.alloc o) Y → Below W1.heap.size W1 Y) := fun o Y h => (unhide HX1).trans (((Below.a1 X1 o).trans (h.mono (by simp))).mono (unhide HX1).size)
    go_wp2_with fail
    refine (unhide d3).mono ?_
    rintro e X ⟨rfl, hw⟩
    have HBX := hide (unhide HUP2 _ _ hw)
    clear hw d2 d3 HUP2
    cases t2 with
    | true =>
      have hs : (st69 (.pointer (some ⟨W.heap.size, 0, none⟩)) (.agg #[.int .i64 0, .int .i64 1, .int .i64 0])).run Tryd.prog X = .ok () (X.setCells W.heap.size 0 [.int .i64 0, .int .i64 1, .int .i64 0]) := run_st69 (unhide HST _ (unhide HBX)) 0 1 0
      have hy := heap_setCells3 (v0 := .int .i64 0) (v1 := .int .i64 1) (v2 := .int .i64 0) (unhide HST _ (unhide HBX))
      obtain ⟨Y, hY⟩ : ∃ Y, Y = X.setCells W.heap.size 0 [.int .i64 0, .int .i64 1, .int .i64 0] := ⟨_, rfl⟩
      rw [← hY] at hs hy
      have y0 : Y.cell? ⟨W.heap.size, 0, none⟩ = some (.int .i64 0) := by rw [cell_at hy]; rfl
      have y1 : Y.cell? ⟨W.heap.size, 1, none⟩ = some (.int .i64 1) := by rw [cell_at hy]; rfl
      have y2 : Y.cell? ⟨W.heap.size, 2, none⟩ = some (.int .i64 0) := by rw [cell_at hy]; rfl
      have HBY : Hid (Below W.heap.size W Y) := by rw [hY]; exact below_setCells (Nat.le_refl _) _ _ _ _ ((unhide HB1).trans ((unhide HBX).mono (unhide HB1).size))
      clear hy hY HST HUP
      go_wp2_with fail
      exact bodyPost_ret (v := .agg #[.int .i64 0, .int .i64 1, .int .i64 0]) (by simp [results, Tryd.results58, go_sem, *]) rfl ⟨by rw [unhide HP]; rfl, unhide HBY⟩
    | false =>
      have hs : (st69 (.pointer (some ⟨W.heap.size, 0, none⟩)) (.agg #[.int .i64 0, .int .i64 0, .int .i64 1])).run Tryd.prog X = .ok () (X.setCells W.heap.size 0 [.int .i64 0, .int .i64 0, .int .i64 1]) := run_st69 (unhide HST _ (unhide HBX)) 0 0 1
      have hy := heap_setCells3 (v0 := .int .i64 0) (v1 := .int .i64 0) (v2 := .int .i64 1) (unhide HST _ (unhide HBX))
      obtain ⟨Y, hY⟩ : ∃ Y, Y = X.setCells W.heap.size 0 [.int .i64 0, .int .i64 0, .int .i64 1] := ⟨_, rfl⟩
      rw [← hY] at hs hy
      have y0 : Y.cell? ⟨W.heap.size, 0, none⟩ = some (.int .i64 0) := by rw [cell_at hy]; rfl
      have y1 : Y.cell? ⟨W.heap.size, 1, none⟩ = some (.int .i64 0) := by rw [cell_at hy]; rfl
      have y2 : Y.cell? ⟨W.heap.size, 2, none⟩ = some (.int .i64 1) := by rw [cell_at hy]; rfl
      have HBY : Hid (Below W.heap.size W Y) := by rw [hY]; exact below_setCells (Nat.le_refl _) _ _ _ _ ((unhide HB1).trans ((unhide HBX).mono (unhide HB1).size))
      clear hy hY HST HUP
      go_wp2_with fail
      exact bodyPost_ret (v := .agg #[.int .i64 0, .int .i64 0, .int .i64 1]) (by simp [results, Tryd.results58, go_sem, *]) rfl ⟨by rw [unhide HP]; rfl, unhide HBY⟩
end Go.Proofs.YtcelllihidkphaaDoor
