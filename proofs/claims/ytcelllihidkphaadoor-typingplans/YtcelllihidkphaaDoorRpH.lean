/- typing, the document's: single 66 (its tally by what it asks). -/
import Derived.Test.YtcelllihidkphaaDoorRpG
namespace Go.Proofs.YtcelllihidkphaaDoor
open Go Go.Shelf Go.ChangeShapes Go.WideShapes Go.ChangeAt Go.RowKit Go.Maps
set_option linter.unusedVariables false
set_option linter.unusedSimpArgs false
set_option maxRecDepth 100000
set_option maxHeartbeats 8000000

def st77 (x y : Value) : Sem Unit := Instr.storeAt 77 x y
theorem st77_is (x y : Value) : Instr.storeAt 77 x y = st77 x y := rfl
theorem size77 : (Tryd.prog.info? 77).map (·.size) = some 4 := by kernel_rfl
theorem run_st77 {w : World} {b : Nat} {x0 x1 x2 x3 : Value} (h : w.heap[b]? = some (.cells #[x0, x1, x2, x3] 77 (0, 0))) (a b' c d : Int) : (st77 (.pointer (some ⟨b, 0, none⟩)) (.agg #[.int .i64 a, .int .i64 b', .int .i64 c, .int .i64 d])).run Tryd.prog w = .ok () (w.setCells b 0 [.int .i64 a, .int .i64 b', .int .i64 c, .int .i64 d]) :=
  run_storeAt_mid (P := Tryd.prog) w b 0 77 #[.int .i64 a, .int .i64 b', .int .i64 c, .int .i64 d] (fun j hj => by
    have hj' : j < 4 := hj
    have : j = 0 ∨ j = 1 ∨ j = 2 ∨ j = 3 := by omega
    rcases this with rfl | rfl | rfl | rfl <;> simp [World.cell?, World.frozen?, h]) size77 (by simp [Value.oneCell'])
theorem heap_setCells4 {w : World} {b : Nat} {x0 x1 x2 x3 v0 v1 v2 v3 : Value} {t : TypeId} (h : w.heap[b]? = some (.cells #[x0, x1, x2, x3] t (0, 0))) : (w.setCells b 0 [v0, v1, v2, v3]).heap[b]? = some (.cells #[v0, v1, v2, v3] t (0, 0)) := by
  show ((((w.setCell ⟨b, 0, none⟩ _).setCell ⟨b, 0 + 1, none⟩ _).setCell ⟨b, 0 + 1 + 1, none⟩ _).setCell ⟨b, 0 + 1 + 1 + 1, none⟩ _).heap[b]? = _
  rw [heap_set (heap_set (heap_set (heap_set h)))]
  rfl
/-- single's tally by what it asks -/
theorem sng_is {L : List Nd} {k : Nat} (hk : k < L.length) {y z : Nd} (hy : L[(L[k]).left.toNat]? = some y) (hz : L[(L[k]).right.toNat]? = some z) : sngS L k = if (L[k]).op == 4 && (isOf y 6 && z.op == 18) then (1, 0, 0, 0) else if (L[k]).op == 10 && (isOf y 6 && z.op == 18) then (0, 1, 0, 0) else if ((L[k]).op == 4 || ((L[k]).op == 6 || ((L[k]).op == 7 || ((L[k]).op == 8 || (L[k]).op == 9)))) && (isOf y 3 && z.op == 19) then (0, 0, 1, 0) else (0, 0, 0, 1) := by
  unfold sngS twoS
  rw [List.getElem?_eq_getElem hk]
  simp only [hy, hz]
  simp only [List.contains_cons, List.contains_nil, Bool.or_false, Bool.and_assoc]
theorem sng_no {L : List Nd} {k : Nat} (hk : k < L.length) (ho : (L[k]).op < 4 ∨ 10 < (L[k]).op) : sngS L k = (0, 0, 0, 1) := by
  have hf : ∀ {O : List Int} {f o : Int}, (∀ u ∈ O, 4 ≤ u ∧ u ≤ 10) → ¬ twoS L k O f o = true := fun {O f o} hO h => by
    obtain ⟨x, e, hx⟩ := two_ops h
    rw [List.getElem?_eq_getElem hk] at e
    cases e
    have := hO _ (by simpa using hx)
    omega
  unfold sngS
  rw [if_neg (hf (by decide)), if_neg (hf (by decide)), if_neg (hf (by decide))]

attribute [local go_sem ↓] ld32_is ld37_is st77_is
theorem rsingle_any {W : World} {q : Qy} {a : Qa} (hq : QIn W q a) (hw : WfN q.nodes) {k : Nat} (hk : k < q.nodes.length) : Calls Tryd.prog 66 #[qV q a, (q.nodes[k]).val] W fun e w' => e = .returned (sngS q.nodes k).val ∧ Below W.heap.size W w' := by
  obtain ⟨nN, hnN⟩ : ∃ n, n = q.nodes.length := ⟨_, rfl⟩
  have hno := fun h => sng_no (L := q.nodes) hk h
  have hsi := fun (y z : Nd) h1 h2 => sng_is (L := q.nodes) hk (y := y) (z := z) h1 h2
  have hwk := hw k hk
  obtain ⟨x, hx⟩ : ∃ x, x = q.nodes[k] := ⟨_, rfl⟩
  rw [← hx] at hno hsi hwk ⊢
  obtain ⟨o, l, r, f, m, s⟩ := x
  simp only at hno hsi hwk
  have HKK : Hid (k < q.nodes.length) := hk
  obtain ⟨W1, hW1⟩ : ∃ X, X = ((W.alloc (.cells #[.slice a.pN nN a.cN, .int .i64 q.wh, .slice a.pB q.by'.length a.cB, .slice a.pS q.sh.length a.cS, .slice a.pO q.ords.length a.cO, .int .i64 q.lim] 32)).alloc (.cells #[.int .i64 o, .int .i64 l, .int .i64 r, .int .i64 f, .int .i64 m, .string s] 37)).alloc (.cells #[.int .i64 0, .int .i64 0, .int .i64 0, .int .i64 0] 77) := ⟨_, rfl⟩
  obtain ⟨bN, hbN⟩ : ∃ b, b = W.heap.size + 1 := ⟨_, rfl⟩
  obtain ⟨bR, hbR⟩ : ∃ b, b = W.heap.size + 1 + 1 := ⟨_, rfl⟩
  have hB1 : Below W.heap.size W W1 := by rw [hW1]; exact ((Below.a1 W _).alloc (by simp) _).alloc (by simp; omega) _
  have hsz : W1.heap.size = W.heap.size + 3 := by rw [hW1]; simp
  have hqb : W1.heap[W.heap.size]? = some (.cells (qC q a).toArray 32 (0, 0)) := by
    rw [hW1, Below.heap_alloc _ _ _ (by simp; omega), Below.heap_alloc _ _ _ (by simp), hnN]; exact heap_new _ _
  have hnb : W1.heap[bN]? = some (.cells #[.int .i64 o, .int .i64 l, .int .i64 r, .int .i64 f, .int .i64 m, .string s] 37 (0, 0)) := by
    have e : bN = (W.alloc (.cells #[.slice a.pN nN a.cN, .int .i64 q.wh, .slice a.pB q.by'.length a.cB, .slice a.pS q.sh.length a.cS, .slice a.pO q.ords.length a.cO, .int .i64 q.lim] 32)).heap.size := by rw [hbN]; simp
    rw [hW1, Below.heap_alloc _ _ _ (by rw [hbN]; simp), e]; exact heap_new _ _
  have hrb : W1.heap[bR]? = some (.cells #[.int .i64 0, .int .i64 0, .int .i64 0, .int .i64 0] 77 (0, 0)) := by
    have e : bR = ((W.alloc (.cells #[.slice a.pN nN a.cN, .int .i64 q.wh, .slice a.pB q.by'.length a.cB, .slice a.pS q.sh.length a.cS, .slice a.pO q.ords.length a.cO, .int .i64 q.lim] 32)).alloc (.cells #[.int .i64 o, .int .i64 l, .int .i64 r, .int .i64 f, .int .i64 m, .string s] 37)).heap.size := by rw [hbR]; simp
    rw [hW1, e]; exact heap_new _ _
  have HB1 := hide hB1; have HQ := hide (hq.below hB1); have HN := hide hnN; have HX := hide hx; have HNO := hide hno; have HSI := hide hsi; have HWK := hide hwk
  have HLO : Hid (W.heap.size ≤ bR) := by rw [hbR]; show _ ≤ _; omega
  have HQF : Hid (∀ X, Below W1.heap.size W1 X → X.heap[W.heap.size]? = some (.cells (qC q a).toArray 32 (0, 0))) := fun X h => (h.block _ (by omega)).trans hqb
  have HNF : Hid (∀ X, Below W1.heap.size W1 X → X.heap[bN]? = some (.cells #[.int .i64 o, .int .i64 l, .int .i64 r, .int .i64 f, .int .i64 m, .string s] 37 (0, 0))) := fun X h => (h.block _ (by omega)).trans hnb
  have HRF : Hid (∀ X, Below W1.heap.size W1 X → X.heap[bR]? = some (.cells #[.int .i64 0, .int .i64 0, .int .i64 0, .int .i64 0] 77 (0, 0))) := fun X h => (h.block _ (by omega)).trans hrb
  have hgo : qV q a = .agg #[.slice a.pN nN a.cN, .int .i64 q.wh, .slice a.pB q.by'.length a.cB, .slice a.pS q.sh.length a.cS, .slice a.pO q.ords.length a.cO, .int .i64 q.lim] := by rw [hnN]; rfl
  rw [hgo, show Nd.val ⟨o, l, r, f, m, s⟩ = .agg #[.int .i64 o, .int .i64 l, .int .i64 r, .int .i64 f, .int .i64 m, .string s] from rfl]
  clear hq hw HX hx hk hno hsi hwk hB1 hsz hqb hnb hrb hgo hnN
  go_enter Tryd.func66, Tryd.ntmps66
  go_upto_region 1 with fail
  rw [← hW1, ← hbR, ← hbN]
  clear hW1 hbR hbN
  have n0 : W1.cell? ⟨bN, 0, none⟩ = some (.int .i64 o) := by rw [cell_at (unhide HNF _ (Below.refl _ _))]; rfl
  by_cases h4 : o ≥ 4
  case neg =>
    obtain ⟨X, hX⟩ : ∃ X, X = W1 := ⟨_, rfl⟩
    have HRB := hide (unhide HRF _ (Below.refl _ _)); have HBX := HB1
    rw [← hX] at HRB HBX n0 ⊢
    clear hX HQF HNF HRF HQ HSI HWK
    have HV : Hid (sngS q.nodes k = (0, 0, 0, 1)) := unhide HNO (by omega)
    have hs : (st77 (.pointer (some ⟨bR, 0, none⟩)) (.agg #[.int .i64 0, .int .i64 0, .int .i64 0, .int .i64 1])).run Tryd.prog X = .ok () (X.setCells bR 0 [.int .i64 0, .int .i64 0, .int .i64 0, .int .i64 1]) := run_st77 (unhide HRB) 0 0 0 1
    have hy := heap_setCells4 (v0 := .int .i64 0) (v1 := .int .i64 0) (v2 := .int .i64 0) (v3 := .int .i64 1) (unhide HRB)
    obtain ⟨Y, hY⟩ : ∃ Y, Y = X.setCells bR 0 [.int .i64 0, .int .i64 0, .int .i64 0, .int .i64 1] := ⟨_, rfl⟩
    rw [← hY] at hs hy
    have y0 : Y.cell? ⟨bR, 0, none⟩ = some (.int .i64 0) := by rw [cell_at hy]; rfl
    have y1 : Y.cell? ⟨bR, 1, none⟩ = some (.int .i64 0) := by rw [cell_at hy]; rfl
    have y2 : Y.cell? ⟨bR, 2, none⟩ = some (.int .i64 0) := by rw [cell_at hy]; rfl
    have y3 : Y.cell? ⟨bR, 3, none⟩ = some (.int .i64 1) := by rw [cell_at hy]; rfl
    have HBY : Hid (Below W.heap.size W Y) := by rw [hY]; exact below_setCells (unhide HLO) _ _ _ _ (unhide HBX)
    clear hy hY
    go_wp2_with fail
    exact bodyPost_ret (v := .agg #[.int .i64 0, .int .i64 0, .int .i64 0, .int .i64 1]) (by simp [results, Tryd.results66, go_sem, *]) rfl ⟨by rw [unhide HV]; rfl, unhide HBY⟩
  by_cases h10 : o ≤ 10
  case neg =>
    obtain ⟨X, hX⟩ : ∃ X, X = W1 := ⟨_, rfl⟩
    have HRB := hide (unhide HRF _ (Below.refl _ _)); have HBX := HB1
    rw [← hX] at HRB HBX n0 ⊢
    clear hX HQF HNF HRF HQ HSI HWK
    have HV : Hid (sngS q.nodes k = (0, 0, 0, 1)) := unhide HNO (by omega)
    have hs : (st77 (.pointer (some ⟨bR, 0, none⟩)) (.agg #[.int .i64 0, .int .i64 0, .int .i64 0, .int .i64 1])).run Tryd.prog X = .ok () (X.setCells bR 0 [.int .i64 0, .int .i64 0, .int .i64 0, .int .i64 1]) := run_st77 (unhide HRB) 0 0 0 1
    have hy := heap_setCells4 (v0 := .int .i64 0) (v1 := .int .i64 0) (v2 := .int .i64 0) (v3 := .int .i64 1) (unhide HRB)
    obtain ⟨Y, hY⟩ : ∃ Y, Y = X.setCells bR 0 [.int .i64 0, .int .i64 0, .int .i64 0, .int .i64 1] := ⟨_, rfl⟩
    rw [← hY] at hs hy
    have y0 : Y.cell? ⟨bR, 0, none⟩ = some (.int .i64 0) := by rw [cell_at hy]; rfl
    have y1 : Y.cell? ⟨bR, 1, none⟩ = some (.int .i64 0) := by rw [cell_at hy]; rfl
    have y2 : Y.cell? ⟨bR, 2, none⟩ = some (.int .i64 0) := by rw [cell_at hy]; rfl
    have y3 : Y.cell? ⟨bR, 3, none⟩ = some (.int .i64 1) := by rw [cell_at hy]; rfl
    have HBY : Hid (Below W.heap.size W Y) := by rw [hY]; exact below_setCells (unhide HLO) _ _ _ _ (unhide HBX)
    clear hy hY
    go_wp2_with fail
    exact bodyPost_ret (v := .agg #[.int .i64 0, .int .i64 0, .int .i64 0, .int .i64 1]) (by simp [results, Tryd.results66, go_sem, *]) rfl ⟨by rw [unhide HV]; rfl, unhide HBY⟩
  have hwk := unhide HWK (by omega)
  have hlk := unhide HKK
  obtain ⟨i, hi⟩ : ∃ i : Nat, l = i := ⟨l.toNat, by omega⟩
  obtain ⟨j, hj⟩ : ∃ j : Nat, r = j := ⟨r.toNat, by omega⟩
  subst hi hj
  have hiN : i < q.nodes.length := by omega
  have hjN : j < q.nodes.length := by omega
  obtain ⟨b, off, eN, hbl, hr⟩ := (unhide HQ).n.2 j hjN
  obtain ⟨y, hy⟩ : ∃ y, y = q.nodes[i] := ⟨_, rfl⟩
  obtain ⟨z, hz⟩ : ∃ z, z = q.nodes[j] := ⟨_, rfl⟩
  have HSG := hide (unhide HSI y z (by rw [Int.toNat_natCast, List.getElem?_eq_getElem hiN, ← hy]) (by rw [Int.toNat_natCast, List.getElem?_eq_getElem hjN, ← hz]))
  rw [← hz] at hr
  have HZ : Hid (∀ X, Below W1.heap.size W1 X → X.cell? ⟨b, off + j * 6, none⟩ = some (.int .i64 z.op)) := fun X h => (h.cell (p := ⟨b, off + j * 6, none⟩) hbl).trans (hr 0 _ rfl)
  have HQ0 : Hid (∀ X, Below W1.heap.size W1 X → X.cell? ⟨W.heap.size, 0, none⟩ = some (.slice (some ⟨b, off, none⟩) nN a.cN)) := fun X h => by rw [cell_at (unhide HQF X h), ← eN, unhide HN]; rfl
  have HN0 : Hid (∀ X, Below W1.heap.size W1 X → X.cell? ⟨bN, 0, none⟩ = some (.int .i64 o) ∧ X.cell? ⟨bN, 1, none⟩ = some (.int .i64 (i : Int)) ∧ X.cell? ⟨bN, 2, none⟩ = some (.int .i64 (j : Int))) := fun X h => by refine ⟨?_, ?_, ?_⟩ <;> rw [cell_at (unhide HNF X h)] <;> rfl
  have HL : Hid (∀ X, Below W1.heap.size W1 X → (ld32 (.pointer (some ⟨W.heap.size, 0, none⟩))).run Tryd.prog X = .ok (qV q a) X) := fun X h => run_ld32 (fun u v hv => by rw [Nat.zero_add, cell_at (unhide HQF X h)]; simpa using hv)
  have HIS : Hid (∀ X g, Below W1.heap.size W1 X → Calls Tryd.prog 65 #[qV q a, .int .i64 (i : Int), .int .i64 g] X fun e w' => e = .returned (.bool (isOf y g)) ∧ Below X.heap.size X w') := fun X g h => by rw [hy]; exact ris_any ((unhide HQ).below h) hiN g
  have hjn : (j : Int) < (nN : Int) := by rw [unhide HN]; omega
  have hj0 : ¬ (j : Int) < 0 := by omega
  obtain ⟨qq, hqq⟩ : ∃ v, v = qV q a := ⟨_, rfl⟩
  rw [← hqq] at HL HIS
  obtain ⟨zo, hzo⟩ : ∃ v, v = z.op := ⟨_, rfl⟩
  rw [← hzo] at HZ HSG
  have D1 := hide (unhide HIS W1 6 (Below.refl _ _))
  have D2 : Hid (∀ X, Below W1.heap.size W1 X → Calls Tryd.prog 65 #[qq, .int .i64 (i : Int), .int .i64 3] X fun e w' => e = .returned (.bool (isOf y 3)) ∧ Below X.heap.size X w') := fun X h => unhide HIS X 3 h
  obtain ⟨bA, hbA⟩ : ∃ v, v = isOf y 6 := ⟨_, rfl⟩
  obtain ⟨bD, hbD⟩ : ∃ v, v = isOf y 3 := ⟨_, rfl⟩
  rw [← hbA] at HSG D1
  rw [← hbD] at HSG D2
  clear hr eN hbl hy hz hzo hqq hiN hjN hwk hlk HIS HQ HNF HQF HSI HWK HNO hbA hbD n0
  have l1 := unhide HL W1 (Below.refl _ _)
  obtain ⟨n0, n1, n2⟩ := unhide HN0 W1 (Below.refl _ _)
  by_cases z18 : zo = 18
  · subst z18
    cases bA with
    | true =>
      cases bD with
      | true =>
        go_upto_region 5 with (first | (go_at_call 65; refine (unhide D1).mono ?_; rintro e X1 ⟨rfl, hw1⟩; have HX1 := hide hw1; clear hw1; have q01 := unhide HQ0 X1 (unhide HX1); have z1 := unhide HZ X1 (unhide HX1); obtain ⟨a0, a1, a2⟩ := unhide HN0 X1 (unhide HX1)))
        clear D1 l1 n0 n1 n2
        have l2 := unhide HL X1 (unhide HX1)
        have D3 := hide (unhide D2 X1 (unhide HX1))
        go_upto_region 6 with (first | (go_at_call 65; refine (unhide D3).mono ?_; rintro e X ⟨rfl, hw2⟩; have HXX : Hid (Below W1.heap.size W1 X) := (unhide HX1).trans (hw2.mono (unhide HX1).size); clear hw2; have q02 := unhide HQ0 X (unhide HXX); have z2 := unhide HZ X (unhide HXX); obtain ⟨b0, b1, b2⟩ := unhide HN0 X (unhide HXX)))
        clear D2 D3 l2 a0 a1 a2 q01 z1
        have HRB := hide (unhide HRF X (unhide HXX))
        have HBX : Hid (Below W.heap.size W X) := (unhide HB1).trans ((unhide HXX).mono (unhide HB1).size)
        clear HRF HZ HQ0 HN0 HL HXX HX1
        by_cases o4 : o = 4
        · subst o4
          have HV : Hid (sngS q.nodes k = (1, 0, 0, 0)) := by show _ = _; rw [unhide HSG]; simp [*]
          have hs : (st77 (.pointer (some ⟨bR, 0, none⟩)) (.agg #[.int .i64 1, .int .i64 0, .int .i64 0, .int .i64 0])).run Tryd.prog X = .ok () (X.setCells bR 0 [.int .i64 1, .int .i64 0, .int .i64 0, .int .i64 0]) := run_st77 (unhide HRB) 1 0 0 0
          have hy := heap_setCells4 (v0 := .int .i64 1) (v1 := .int .i64 0) (v2 := .int .i64 0) (v3 := .int .i64 0) (unhide HRB)
          obtain ⟨Y, hY⟩ : ∃ Y, Y = X.setCells bR 0 [.int .i64 1, .int .i64 0, .int .i64 0, .int .i64 0] := ⟨_, rfl⟩
          rw [← hY] at hs hy
          have y0 : Y.cell? ⟨bR, 0, none⟩ = some (.int .i64 1) := by rw [cell_at hy]; rfl
          have y1 : Y.cell? ⟨bR, 1, none⟩ = some (.int .i64 0) := by rw [cell_at hy]; rfl
          have y2 : Y.cell? ⟨bR, 2, none⟩ = some (.int .i64 0) := by rw [cell_at hy]; rfl
          have y3 : Y.cell? ⟨bR, 3, none⟩ = some (.int .i64 0) := by rw [cell_at hy]; rfl
          have HBY : Hid (Below W.heap.size W Y) := by rw [hY]; exact below_setCells (unhide HLO) _ _ _ _ (unhide HBX)
          clear hy hY
          go_wp2_with fail
          exact bodyPost_ret (v := .agg #[.int .i64 1, .int .i64 0, .int .i64 0, .int .i64 0]) (by simp [results, Tryd.results66, go_sem, *]) rfl ⟨by rw [unhide HV]; rfl, unhide HBY⟩
        have o4' := beqF o4
        by_cases o10 : o = 10
        · subst o10
          have HV : Hid (sngS q.nodes k = (0, 1, 0, 0)) := by show _ = _; rw [unhide HSG]; simp [*]
          have hs : (st77 (.pointer (some ⟨bR, 0, none⟩)) (.agg #[.int .i64 0, .int .i64 1, .int .i64 0, .int .i64 0])).run Tryd.prog X = .ok () (X.setCells bR 0 [.int .i64 0, .int .i64 1, .int .i64 0, .int .i64 0]) := run_st77 (unhide HRB) 0 1 0 0
          have hy := heap_setCells4 (v0 := .int .i64 0) (v1 := .int .i64 1) (v2 := .int .i64 0) (v3 := .int .i64 0) (unhide HRB)
          obtain ⟨Y, hY⟩ : ∃ Y, Y = X.setCells bR 0 [.int .i64 0, .int .i64 1, .int .i64 0, .int .i64 0] := ⟨_, rfl⟩
          rw [← hY] at hs hy
          have y0 : Y.cell? ⟨bR, 0, none⟩ = some (.int .i64 0) := by rw [cell_at hy]; rfl
          have y1 : Y.cell? ⟨bR, 1, none⟩ = some (.int .i64 1) := by rw [cell_at hy]; rfl
          have y2 : Y.cell? ⟨bR, 2, none⟩ = some (.int .i64 0) := by rw [cell_at hy]; rfl
          have y3 : Y.cell? ⟨bR, 3, none⟩ = some (.int .i64 0) := by rw [cell_at hy]; rfl
          have HBY : Hid (Below W.heap.size W Y) := by rw [hY]; exact below_setCells (unhide HLO) _ _ _ _ (unhide HBX)
          clear hy hY
          go_wp2_with fail
          exact bodyPost_ret (v := .agg #[.int .i64 0, .int .i64 1, .int .i64 0, .int .i64 0]) (by simp [results, Tryd.results66, go_sem, *]) rfl ⟨by rw [unhide HV]; rfl, unhide HBY⟩
        have o10' := beqF o10
        have o10'' : (o != 10) = true := by simpa using o10
        by_cases o5 : o = 5
        · subst o5
          have HV : Hid (sngS q.nodes k = (0, 0, 0, 1)) := by show _ = _; rw [unhide HSG]; simp [*]
          have hs : (st77 (.pointer (some ⟨bR, 0, none⟩)) (.agg #[.int .i64 0, .int .i64 0, .int .i64 0, .int .i64 1])).run Tryd.prog X = .ok () (X.setCells bR 0 [.int .i64 0, .int .i64 0, .int .i64 0, .int .i64 1]) := run_st77 (unhide HRB) 0 0 0 1
          have hy := heap_setCells4 (v0 := .int .i64 0) (v1 := .int .i64 0) (v2 := .int .i64 0) (v3 := .int .i64 1) (unhide HRB)
          obtain ⟨Y, hY⟩ : ∃ Y, Y = X.setCells bR 0 [.int .i64 0, .int .i64 0, .int .i64 0, .int .i64 1] := ⟨_, rfl⟩
          rw [← hY] at hs hy
          have y0 : Y.cell? ⟨bR, 0, none⟩ = some (.int .i64 0) := by rw [cell_at hy]; rfl
          have y1 : Y.cell? ⟨bR, 1, none⟩ = some (.int .i64 0) := by rw [cell_at hy]; rfl
          have y2 : Y.cell? ⟨bR, 2, none⟩ = some (.int .i64 0) := by rw [cell_at hy]; rfl
          have y3 : Y.cell? ⟨bR, 3, none⟩ = some (.int .i64 1) := by rw [cell_at hy]; rfl
          have HBY : Hid (Below W.heap.size W Y) := by rw [hY]; exact below_setCells (unhide HLO) _ _ _ _ (unhide HBX)
          clear hy hY
          go_wp2_with fail
          exact bodyPost_ret (v := .agg #[.int .i64 0, .int .i64 0, .int .i64 0, .int .i64 1]) (by simp [results, Tryd.results66, go_sem, *]) rfl ⟨by rw [unhide HV]; rfl, unhide HBY⟩
        have o5' := beqF o5
        have o5'' : (o != 5) = true := by simpa using o5
        have o69 : (o == 6 || (o == 7 || (o == 8 || o == 9))) = true := by
          have : o = 6 ∨ o = 7 ∨ o = 8 ∨ o = 9 := by omega
          rcases this with h | h | h | h <;> rw [h] <;> rfl
        have HV : Hid (sngS q.nodes k = (0, 0, 0, 1)) := by show _ = _; rw [unhide HSG]; simp [*]
        have hs : (st77 (.pointer (some ⟨bR, 0, none⟩)) (.agg #[.int .i64 0, .int .i64 0, .int .i64 0, .int .i64 1])).run Tryd.prog X = .ok () (X.setCells bR 0 [.int .i64 0, .int .i64 0, .int .i64 0, .int .i64 1]) := run_st77 (unhide HRB) 0 0 0 1
        have hy := heap_setCells4 (v0 := .int .i64 0) (v1 := .int .i64 0) (v2 := .int .i64 0) (v3 := .int .i64 1) (unhide HRB)
        obtain ⟨Y, hY⟩ : ∃ Y, Y = X.setCells bR 0 [.int .i64 0, .int .i64 0, .int .i64 0, .int .i64 1] := ⟨_, rfl⟩
        rw [← hY] at hs hy
        have y0 : Y.cell? ⟨bR, 0, none⟩ = some (.int .i64 0) := by rw [cell_at hy]; rfl
        have y1 : Y.cell? ⟨bR, 1, none⟩ = some (.int .i64 0) := by rw [cell_at hy]; rfl
        have y2 : Y.cell? ⟨bR, 2, none⟩ = some (.int .i64 0) := by rw [cell_at hy]; rfl
        have y3 : Y.cell? ⟨bR, 3, none⟩ = some (.int .i64 1) := by rw [cell_at hy]; rfl
        have HBY : Hid (Below W.heap.size W Y) := by rw [hY]; exact below_setCells (unhide HLO) _ _ _ _ (unhide HBX)
        clear hy hY
        go_wp2_with fail
        exact bodyPost_ret (v := .agg #[.int .i64 0, .int .i64 0, .int .i64 0, .int .i64 1]) (by simp [results, Tryd.results66, go_sem, *]) rfl ⟨by rw [unhide HV]; rfl, unhide HBY⟩
      | false =>
        go_upto_region 5 with (first | (go_at_call 65; refine (unhide D1).mono ?_; rintro e X1 ⟨rfl, hw1⟩; have HX1 := hide hw1; clear hw1; have q01 := unhide HQ0 X1 (unhide HX1); have z1 := unhide HZ X1 (unhide HX1); obtain ⟨a0, a1, a2⟩ := unhide HN0 X1 (unhide HX1)))
        clear D1 l1 n0 n1 n2
        have l2 := unhide HL X1 (unhide HX1)
        have D3 := hide (unhide D2 X1 (unhide HX1))
        go_upto_region 6 with (first | (go_at_call 65; refine (unhide D3).mono ?_; rintro e X ⟨rfl, hw2⟩; have HXX : Hid (Below W1.heap.size W1 X) := (unhide HX1).trans (hw2.mono (unhide HX1).size); clear hw2; have q02 := unhide HQ0 X (unhide HXX); have z2 := unhide HZ X (unhide HXX); obtain ⟨b0, b1, b2⟩ := unhide HN0 X (unhide HXX)))
        clear D2 D3 l2 a0 a1 a2 q01 z1
        have HRB := hide (unhide HRF X (unhide HXX))
        have HBX : Hid (Below W.heap.size W X) := (unhide HB1).trans ((unhide HXX).mono (unhide HB1).size)
        clear HRF HZ HQ0 HN0 HL HXX HX1
        by_cases o4 : o = 4
        · subst o4
          have HV : Hid (sngS q.nodes k = (1, 0, 0, 0)) := by show _ = _; rw [unhide HSG]; simp [*]
          have hs : (st77 (.pointer (some ⟨bR, 0, none⟩)) (.agg #[.int .i64 1, .int .i64 0, .int .i64 0, .int .i64 0])).run Tryd.prog X = .ok () (X.setCells bR 0 [.int .i64 1, .int .i64 0, .int .i64 0, .int .i64 0]) := run_st77 (unhide HRB) 1 0 0 0
          have hy := heap_setCells4 (v0 := .int .i64 1) (v1 := .int .i64 0) (v2 := .int .i64 0) (v3 := .int .i64 0) (unhide HRB)
          obtain ⟨Y, hY⟩ : ∃ Y, Y = X.setCells bR 0 [.int .i64 1, .int .i64 0, .int .i64 0, .int .i64 0] := ⟨_, rfl⟩
          rw [← hY] at hs hy
          have y0 : Y.cell? ⟨bR, 0, none⟩ = some (.int .i64 1) := by rw [cell_at hy]; rfl
          have y1 : Y.cell? ⟨bR, 1, none⟩ = some (.int .i64 0) := by rw [cell_at hy]; rfl
          have y2 : Y.cell? ⟨bR, 2, none⟩ = some (.int .i64 0) := by rw [cell_at hy]; rfl
          have y3 : Y.cell? ⟨bR, 3, none⟩ = some (.int .i64 0) := by rw [cell_at hy]; rfl
          have HBY : Hid (Below W.heap.size W Y) := by rw [hY]; exact below_setCells (unhide HLO) _ _ _ _ (unhide HBX)
          clear hy hY
          go_wp2_with fail
          exact bodyPost_ret (v := .agg #[.int .i64 1, .int .i64 0, .int .i64 0, .int .i64 0]) (by simp [results, Tryd.results66, go_sem, *]) rfl ⟨by rw [unhide HV]; rfl, unhide HBY⟩
        have o4' := beqF o4
        by_cases o10 : o = 10
        · subst o10
          have HV : Hid (sngS q.nodes k = (0, 1, 0, 0)) := by show _ = _; rw [unhide HSG]; simp [*]
          have hs : (st77 (.pointer (some ⟨bR, 0, none⟩)) (.agg #[.int .i64 0, .int .i64 1, .int .i64 0, .int .i64 0])).run Tryd.prog X = .ok () (X.setCells bR 0 [.int .i64 0, .int .i64 1, .int .i64 0, .int .i64 0]) := run_st77 (unhide HRB) 0 1 0 0
          have hy := heap_setCells4 (v0 := .int .i64 0) (v1 := .int .i64 1) (v2 := .int .i64 0) (v3 := .int .i64 0) (unhide HRB)
          obtain ⟨Y, hY⟩ : ∃ Y, Y = X.setCells bR 0 [.int .i64 0, .int .i64 1, .int .i64 0, .int .i64 0] := ⟨_, rfl⟩
          rw [← hY] at hs hy
          have y0 : Y.cell? ⟨bR, 0, none⟩ = some (.int .i64 0) := by rw [cell_at hy]; rfl
          have y1 : Y.cell? ⟨bR, 1, none⟩ = some (.int .i64 1) := by rw [cell_at hy]; rfl
          have y2 : Y.cell? ⟨bR, 2, none⟩ = some (.int .i64 0) := by rw [cell_at hy]; rfl
          have y3 : Y.cell? ⟨bR, 3, none⟩ = some (.int .i64 0) := by rw [cell_at hy]; rfl
          have HBY : Hid (Below W.heap.size W Y) := by rw [hY]; exact below_setCells (unhide HLO) _ _ _ _ (unhide HBX)
          clear hy hY
          go_wp2_with fail
          exact bodyPost_ret (v := .agg #[.int .i64 0, .int .i64 1, .int .i64 0, .int .i64 0]) (by simp [results, Tryd.results66, go_sem, *]) rfl ⟨by rw [unhide HV]; rfl, unhide HBY⟩
        have o10' := beqF o10
        have o10'' : (o != 10) = true := by simpa using o10
        by_cases o5 : o = 5
        · subst o5
          have HV : Hid (sngS q.nodes k = (0, 0, 0, 1)) := by show _ = _; rw [unhide HSG]; simp [*]
          have hs : (st77 (.pointer (some ⟨bR, 0, none⟩)) (.agg #[.int .i64 0, .int .i64 0, .int .i64 0, .int .i64 1])).run Tryd.prog X = .ok () (X.setCells bR 0 [.int .i64 0, .int .i64 0, .int .i64 0, .int .i64 1]) := run_st77 (unhide HRB) 0 0 0 1
          have hy := heap_setCells4 (v0 := .int .i64 0) (v1 := .int .i64 0) (v2 := .int .i64 0) (v3 := .int .i64 1) (unhide HRB)
          obtain ⟨Y, hY⟩ : ∃ Y, Y = X.setCells bR 0 [.int .i64 0, .int .i64 0, .int .i64 0, .int .i64 1] := ⟨_, rfl⟩
          rw [← hY] at hs hy
          have y0 : Y.cell? ⟨bR, 0, none⟩ = some (.int .i64 0) := by rw [cell_at hy]; rfl
          have y1 : Y.cell? ⟨bR, 1, none⟩ = some (.int .i64 0) := by rw [cell_at hy]; rfl
          have y2 : Y.cell? ⟨bR, 2, none⟩ = some (.int .i64 0) := by rw [cell_at hy]; rfl
          have y3 : Y.cell? ⟨bR, 3, none⟩ = some (.int .i64 1) := by rw [cell_at hy]; rfl
          have HBY : Hid (Below W.heap.size W Y) := by rw [hY]; exact below_setCells (unhide HLO) _ _ _ _ (unhide HBX)
          clear hy hY
          go_wp2_with fail
          exact bodyPost_ret (v := .agg #[.int .i64 0, .int .i64 0, .int .i64 0, .int .i64 1]) (by simp [results, Tryd.results66, go_sem, *]) rfl ⟨by rw [unhide HV]; rfl, unhide HBY⟩
        have o5' := beqF o5
        have o5'' : (o != 5) = true := by simpa using o5
        have o69 : (o == 6 || (o == 7 || (o == 8 || o == 9))) = true := by
          have : o = 6 ∨ o = 7 ∨ o = 8 ∨ o = 9 := by omega
          rcases this with h | h | h | h <;> rw [h] <;> rfl
        have HV : Hid (sngS q.nodes k = (0, 0, 0, 1)) := by show _ = _; rw [unhide HSG]; simp [*]
        have hs : (st77 (.pointer (some ⟨bR, 0, none⟩)) (.agg #[.int .i64 0, .int .i64 0, .int .i64 0, .int .i64 1])).run Tryd.prog X = .ok () (X.setCells bR 0 [.int .i64 0, .int .i64 0, .int .i64 0, .int .i64 1]) := run_st77 (unhide HRB) 0 0 0 1
        have hy := heap_setCells4 (v0 := .int .i64 0) (v1 := .int .i64 0) (v2 := .int .i64 0) (v3 := .int .i64 1) (unhide HRB)
        obtain ⟨Y, hY⟩ : ∃ Y, Y = X.setCells bR 0 [.int .i64 0, .int .i64 0, .int .i64 0, .int .i64 1] := ⟨_, rfl⟩
        rw [← hY] at hs hy
        have y0 : Y.cell? ⟨bR, 0, none⟩ = some (.int .i64 0) := by rw [cell_at hy]; rfl
        have y1 : Y.cell? ⟨bR, 1, none⟩ = some (.int .i64 0) := by rw [cell_at hy]; rfl
        have y2 : Y.cell? ⟨bR, 2, none⟩ = some (.int .i64 0) := by rw [cell_at hy]; rfl
        have y3 : Y.cell? ⟨bR, 3, none⟩ = some (.int .i64 1) := by rw [cell_at hy]; rfl
        have HBY : Hid (Below W.heap.size W Y) := by rw [hY]; exact below_setCells (unhide HLO) _ _ _ _ (unhide HBX)
        clear hy hY
        go_wp2_with fail
        exact bodyPost_ret (v := .agg #[.int .i64 0, .int .i64 0, .int .i64 0, .int .i64 1]) (by simp [results, Tryd.results66, go_sem, *]) rfl ⟨by rw [unhide HV]; rfl, unhide HBY⟩
    | false =>
      cases bD with
      | true =>
        go_upto_region 5 with (first | (go_at_call 65; refine (unhide D1).mono ?_; rintro e X1 ⟨rfl, hw1⟩; have HX1 := hide hw1; clear hw1; have q01 := unhide HQ0 X1 (unhide HX1); have z1 := unhide HZ X1 (unhide HX1); obtain ⟨a0, a1, a2⟩ := unhide HN0 X1 (unhide HX1)))
        clear D1 l1 n0 n1 n2
        have l2 := unhide HL X1 (unhide HX1)
        have D3 := hide (unhide D2 X1 (unhide HX1))
        go_upto_region 6 with (first | (go_at_call 65; refine (unhide D3).mono ?_; rintro e X ⟨rfl, hw2⟩; have HXX : Hid (Below W1.heap.size W1 X) := (unhide HX1).trans (hw2.mono (unhide HX1).size); clear hw2; have q02 := unhide HQ0 X (unhide HXX); have z2 := unhide HZ X (unhide HXX); obtain ⟨b0, b1, b2⟩ := unhide HN0 X (unhide HXX)))
        clear D2 D3 l2 a0 a1 a2 q01 z1
        have HRB := hide (unhide HRF X (unhide HXX))
        have HBX : Hid (Below W.heap.size W X) := (unhide HB1).trans ((unhide HXX).mono (unhide HB1).size)
        clear HRF HZ HQ0 HN0 HL HXX HX1
        by_cases o4 : o = 4
        · subst o4
          have HV : Hid (sngS q.nodes k = (0, 0, 0, 1)) := by show _ = _; rw [unhide HSG]; simp [*]
          have hs : (st77 (.pointer (some ⟨bR, 0, none⟩)) (.agg #[.int .i64 0, .int .i64 0, .int .i64 0, .int .i64 1])).run Tryd.prog X = .ok () (X.setCells bR 0 [.int .i64 0, .int .i64 0, .int .i64 0, .int .i64 1]) := run_st77 (unhide HRB) 0 0 0 1
          have hy := heap_setCells4 (v0 := .int .i64 0) (v1 := .int .i64 0) (v2 := .int .i64 0) (v3 := .int .i64 1) (unhide HRB)
          obtain ⟨Y, hY⟩ : ∃ Y, Y = X.setCells bR 0 [.int .i64 0, .int .i64 0, .int .i64 0, .int .i64 1] := ⟨_, rfl⟩
          rw [← hY] at hs hy
          have y0 : Y.cell? ⟨bR, 0, none⟩ = some (.int .i64 0) := by rw [cell_at hy]; rfl
          have y1 : Y.cell? ⟨bR, 1, none⟩ = some (.int .i64 0) := by rw [cell_at hy]; rfl
          have y2 : Y.cell? ⟨bR, 2, none⟩ = some (.int .i64 0) := by rw [cell_at hy]; rfl
          have y3 : Y.cell? ⟨bR, 3, none⟩ = some (.int .i64 1) := by rw [cell_at hy]; rfl
          have HBY : Hid (Below W.heap.size W Y) := by rw [hY]; exact below_setCells (unhide HLO) _ _ _ _ (unhide HBX)
          clear hy hY
          go_wp2_with fail
          exact bodyPost_ret (v := .agg #[.int .i64 0, .int .i64 0, .int .i64 0, .int .i64 1]) (by simp [results, Tryd.results66, go_sem, *]) rfl ⟨by rw [unhide HV]; rfl, unhide HBY⟩
        have o4' := beqF o4
        by_cases o10 : o = 10
        · subst o10
          have HV : Hid (sngS q.nodes k = (0, 0, 0, 1)) := by show _ = _; rw [unhide HSG]; simp [*]
          have hs : (st77 (.pointer (some ⟨bR, 0, none⟩)) (.agg #[.int .i64 0, .int .i64 0, .int .i64 0, .int .i64 1])).run Tryd.prog X = .ok () (X.setCells bR 0 [.int .i64 0, .int .i64 0, .int .i64 0, .int .i64 1]) := run_st77 (unhide HRB) 0 0 0 1
          have hy := heap_setCells4 (v0 := .int .i64 0) (v1 := .int .i64 0) (v2 := .int .i64 0) (v3 := .int .i64 1) (unhide HRB)
          obtain ⟨Y, hY⟩ : ∃ Y, Y = X.setCells bR 0 [.int .i64 0, .int .i64 0, .int .i64 0, .int .i64 1] := ⟨_, rfl⟩
          rw [← hY] at hs hy
          have y0 : Y.cell? ⟨bR, 0, none⟩ = some (.int .i64 0) := by rw [cell_at hy]; rfl
          have y1 : Y.cell? ⟨bR, 1, none⟩ = some (.int .i64 0) := by rw [cell_at hy]; rfl
          have y2 : Y.cell? ⟨bR, 2, none⟩ = some (.int .i64 0) := by rw [cell_at hy]; rfl
          have y3 : Y.cell? ⟨bR, 3, none⟩ = some (.int .i64 1) := by rw [cell_at hy]; rfl
          have HBY : Hid (Below W.heap.size W Y) := by rw [hY]; exact below_setCells (unhide HLO) _ _ _ _ (unhide HBX)
          clear hy hY
          go_wp2_with fail
          exact bodyPost_ret (v := .agg #[.int .i64 0, .int .i64 0, .int .i64 0, .int .i64 1]) (by simp [results, Tryd.results66, go_sem, *]) rfl ⟨by rw [unhide HV]; rfl, unhide HBY⟩
        have o10' := beqF o10
        have o10'' : (o != 10) = true := by simpa using o10
        by_cases o5 : o = 5
        · subst o5
          have HV : Hid (sngS q.nodes k = (0, 0, 0, 1)) := by show _ = _; rw [unhide HSG]; simp [*]
          have hs : (st77 (.pointer (some ⟨bR, 0, none⟩)) (.agg #[.int .i64 0, .int .i64 0, .int .i64 0, .int .i64 1])).run Tryd.prog X = .ok () (X.setCells bR 0 [.int .i64 0, .int .i64 0, .int .i64 0, .int .i64 1]) := run_st77 (unhide HRB) 0 0 0 1
          have hy := heap_setCells4 (v0 := .int .i64 0) (v1 := .int .i64 0) (v2 := .int .i64 0) (v3 := .int .i64 1) (unhide HRB)
          obtain ⟨Y, hY⟩ : ∃ Y, Y = X.setCells bR 0 [.int .i64 0, .int .i64 0, .int .i64 0, .int .i64 1] := ⟨_, rfl⟩
          rw [← hY] at hs hy
          have y0 : Y.cell? ⟨bR, 0, none⟩ = some (.int .i64 0) := by rw [cell_at hy]; rfl
          have y1 : Y.cell? ⟨bR, 1, none⟩ = some (.int .i64 0) := by rw [cell_at hy]; rfl
          have y2 : Y.cell? ⟨bR, 2, none⟩ = some (.int .i64 0) := by rw [cell_at hy]; rfl
          have y3 : Y.cell? ⟨bR, 3, none⟩ = some (.int .i64 1) := by rw [cell_at hy]; rfl
          have HBY : Hid (Below W.heap.size W Y) := by rw [hY]; exact below_setCells (unhide HLO) _ _ _ _ (unhide HBX)
          clear hy hY
          go_wp2_with fail
          exact bodyPost_ret (v := .agg #[.int .i64 0, .int .i64 0, .int .i64 0, .int .i64 1]) (by simp [results, Tryd.results66, go_sem, *]) rfl ⟨by rw [unhide HV]; rfl, unhide HBY⟩
        have o5' := beqF o5
        have o5'' : (o != 5) = true := by simpa using o5
        have o69 : (o == 6 || (o == 7 || (o == 8 || o == 9))) = true := by
          have : o = 6 ∨ o = 7 ∨ o = 8 ∨ o = 9 := by omega
          rcases this with h | h | h | h <;> rw [h] <;> rfl
        have HV : Hid (sngS q.nodes k = (0, 0, 0, 1)) := by show _ = _; rw [unhide HSG]; simp [*]
        have hs : (st77 (.pointer (some ⟨bR, 0, none⟩)) (.agg #[.int .i64 0, .int .i64 0, .int .i64 0, .int .i64 1])).run Tryd.prog X = .ok () (X.setCells bR 0 [.int .i64 0, .int .i64 0, .int .i64 0, .int .i64 1]) := run_st77 (unhide HRB) 0 0 0 1
        have hy := heap_setCells4 (v0 := .int .i64 0) (v1 := .int .i64 0) (v2 := .int .i64 0) (v3 := .int .i64 1) (unhide HRB)
        obtain ⟨Y, hY⟩ : ∃ Y, Y = X.setCells bR 0 [.int .i64 0, .int .i64 0, .int .i64 0, .int .i64 1] := ⟨_, rfl⟩
        rw [← hY] at hs hy
        have y0 : Y.cell? ⟨bR, 0, none⟩ = some (.int .i64 0) := by rw [cell_at hy]; rfl
        have y1 : Y.cell? ⟨bR, 1, none⟩ = some (.int .i64 0) := by rw [cell_at hy]; rfl
        have y2 : Y.cell? ⟨bR, 2, none⟩ = some (.int .i64 0) := by rw [cell_at hy]; rfl
        have y3 : Y.cell? ⟨bR, 3, none⟩ = some (.int .i64 1) := by rw [cell_at hy]; rfl
        have HBY : Hid (Below W.heap.size W Y) := by rw [hY]; exact below_setCells (unhide HLO) _ _ _ _ (unhide HBX)
        clear hy hY
        go_wp2_with fail
        exact bodyPost_ret (v := .agg #[.int .i64 0, .int .i64 0, .int .i64 0, .int .i64 1]) (by simp [results, Tryd.results66, go_sem, *]) rfl ⟨by rw [unhide HV]; rfl, unhide HBY⟩
      | false =>
        go_upto_region 5 with (first | (go_at_call 65; refine (unhide D1).mono ?_; rintro e X1 ⟨rfl, hw1⟩; have HX1 := hide hw1; clear hw1; have q01 := unhide HQ0 X1 (unhide HX1); have z1 := unhide HZ X1 (unhide HX1); obtain ⟨a0, a1, a2⟩ := unhide HN0 X1 (unhide HX1)))
        clear D1 l1 n0 n1 n2
        have l2 := unhide HL X1 (unhide HX1)
        have D3 := hide (unhide D2 X1 (unhide HX1))
        go_upto_region 6 with (first | (go_at_call 65; refine (unhide D3).mono ?_; rintro e X ⟨rfl, hw2⟩; have HXX : Hid (Below W1.heap.size W1 X) := (unhide HX1).trans (hw2.mono (unhide HX1).size); clear hw2; have q02 := unhide HQ0 X (unhide HXX); have z2 := unhide HZ X (unhide HXX); obtain ⟨b0, b1, b2⟩ := unhide HN0 X (unhide HXX)))
        clear D2 D3 l2 a0 a1 a2 q01 z1
        have HRB := hide (unhide HRF X (unhide HXX))
        have HBX : Hid (Below W.heap.size W X) := (unhide HB1).trans ((unhide HXX).mono (unhide HB1).size)
        clear HRF HZ HQ0 HN0 HL HXX HX1
        by_cases o4 : o = 4
        · subst o4
          have HV : Hid (sngS q.nodes k = (0, 0, 0, 1)) := by show _ = _; rw [unhide HSG]; simp [*]
          have hs : (st77 (.pointer (some ⟨bR, 0, none⟩)) (.agg #[.int .i64 0, .int .i64 0, .int .i64 0, .int .i64 1])).run Tryd.prog X = .ok () (X.setCells bR 0 [.int .i64 0, .int .i64 0, .int .i64 0, .int .i64 1]) := run_st77 (unhide HRB) 0 0 0 1
          have hy := heap_setCells4 (v0 := .int .i64 0) (v1 := .int .i64 0) (v2 := .int .i64 0) (v3 := .int .i64 1) (unhide HRB)
          obtain ⟨Y, hY⟩ : ∃ Y, Y = X.setCells bR 0 [.int .i64 0, .int .i64 0, .int .i64 0, .int .i64 1] := ⟨_, rfl⟩
          rw [← hY] at hs hy
          have y0 : Y.cell? ⟨bR, 0, none⟩ = some (.int .i64 0) := by rw [cell_at hy]; rfl
          have y1 : Y.cell? ⟨bR, 1, none⟩ = some (.int .i64 0) := by rw [cell_at hy]; rfl
          have y2 : Y.cell? ⟨bR, 2, none⟩ = some (.int .i64 0) := by rw [cell_at hy]; rfl
          have y3 : Y.cell? ⟨bR, 3, none⟩ = some (.int .i64 1) := by rw [cell_at hy]; rfl
          have HBY : Hid (Below W.heap.size W Y) := by rw [hY]; exact below_setCells (unhide HLO) _ _ _ _ (unhide HBX)
          clear hy hY
          go_wp2_with fail
          exact bodyPost_ret (v := .agg #[.int .i64 0, .int .i64 0, .int .i64 0, .int .i64 1]) (by simp [results, Tryd.results66, go_sem, *]) rfl ⟨by rw [unhide HV]; rfl, unhide HBY⟩
        have o4' := beqF o4
        by_cases o10 : o = 10
        · subst o10
          have HV : Hid (sngS q.nodes k = (0, 0, 0, 1)) := by show _ = _; rw [unhide HSG]; simp [*]
          have hs : (st77 (.pointer (some ⟨bR, 0, none⟩)) (.agg #[.int .i64 0, .int .i64 0, .int .i64 0, .int .i64 1])).run Tryd.prog X = .ok () (X.setCells bR 0 [.int .i64 0, .int .i64 0, .int .i64 0, .int .i64 1]) := run_st77 (unhide HRB) 0 0 0 1
          have hy := heap_setCells4 (v0 := .int .i64 0) (v1 := .int .i64 0) (v2 := .int .i64 0) (v3 := .int .i64 1) (unhide HRB)
          obtain ⟨Y, hY⟩ : ∃ Y, Y = X.setCells bR 0 [.int .i64 0, .int .i64 0, .int .i64 0, .int .i64 1] := ⟨_, rfl⟩
          rw [← hY] at hs hy
          have y0 : Y.cell? ⟨bR, 0, none⟩ = some (.int .i64 0) := by rw [cell_at hy]; rfl
          have y1 : Y.cell? ⟨bR, 1, none⟩ = some (.int .i64 0) := by rw [cell_at hy]; rfl
          have y2 : Y.cell? ⟨bR, 2, none⟩ = some (.int .i64 0) := by rw [cell_at hy]; rfl
          have y3 : Y.cell? ⟨bR, 3, none⟩ = some (.int .i64 1) := by rw [cell_at hy]; rfl
          have HBY : Hid (Below W.heap.size W Y) := by rw [hY]; exact below_setCells (unhide HLO) _ _ _ _ (unhide HBX)
          clear hy hY
          go_wp2_with fail
          exact bodyPost_ret (v := .agg #[.int .i64 0, .int .i64 0, .int .i64 0, .int .i64 1]) (by simp [results, Tryd.results66, go_sem, *]) rfl ⟨by rw [unhide HV]; rfl, unhide HBY⟩
        have o10' := beqF o10
        have o10'' : (o != 10) = true := by simpa using o10
        by_cases o5 : o = 5
        · subst o5
          have HV : Hid (sngS q.nodes k = (0, 0, 0, 1)) := by show _ = _; rw [unhide HSG]; simp [*]
          have hs : (st77 (.pointer (some ⟨bR, 0, none⟩)) (.agg #[.int .i64 0, .int .i64 0, .int .i64 0, .int .i64 1])).run Tryd.prog X = .ok () (X.setCells bR 0 [.int .i64 0, .int .i64 0, .int .i64 0, .int .i64 1]) := run_st77 (unhide HRB) 0 0 0 1
          have hy := heap_setCells4 (v0 := .int .i64 0) (v1 := .int .i64 0) (v2 := .int .i64 0) (v3 := .int .i64 1) (unhide HRB)
          obtain ⟨Y, hY⟩ : ∃ Y, Y = X.setCells bR 0 [.int .i64 0, .int .i64 0, .int .i64 0, .int .i64 1] := ⟨_, rfl⟩
          rw [← hY] at hs hy
          have y0 : Y.cell? ⟨bR, 0, none⟩ = some (.int .i64 0) := by rw [cell_at hy]; rfl
          have y1 : Y.cell? ⟨bR, 1, none⟩ = some (.int .i64 0) := by rw [cell_at hy]; rfl
          have y2 : Y.cell? ⟨bR, 2, none⟩ = some (.int .i64 0) := by rw [cell_at hy]; rfl
          have y3 : Y.cell? ⟨bR, 3, none⟩ = some (.int .i64 1) := by rw [cell_at hy]; rfl
          have HBY : Hid (Below W.heap.size W Y) := by rw [hY]; exact below_setCells (unhide HLO) _ _ _ _ (unhide HBX)
          clear hy hY
          go_wp2_with fail
          exact bodyPost_ret (v := .agg #[.int .i64 0, .int .i64 0, .int .i64 0, .int .i64 1]) (by simp [results, Tryd.results66, go_sem, *]) rfl ⟨by rw [unhide HV]; rfl, unhide HBY⟩
        have o5' := beqF o5
        have o5'' : (o != 5) = true := by simpa using o5
        have o69 : (o == 6 || (o == 7 || (o == 8 || o == 9))) = true := by
          have : o = 6 ∨ o = 7 ∨ o = 8 ∨ o = 9 := by omega
          rcases this with h | h | h | h <;> rw [h] <;> rfl
        have HV : Hid (sngS q.nodes k = (0, 0, 0, 1)) := by show _ = _; rw [unhide HSG]; simp [*]
        have hs : (st77 (.pointer (some ⟨bR, 0, none⟩)) (.agg #[.int .i64 0, .int .i64 0, .int .i64 0, .int .i64 1])).run Tryd.prog X = .ok () (X.setCells bR 0 [.int .i64 0, .int .i64 0, .int .i64 0, .int .i64 1]) := run_st77 (unhide HRB) 0 0 0 1
        have hy := heap_setCells4 (v0 := .int .i64 0) (v1 := .int .i64 0) (v2 := .int .i64 0) (v3 := .int .i64 1) (unhide HRB)
        obtain ⟨Y, hY⟩ : ∃ Y, Y = X.setCells bR 0 [.int .i64 0, .int .i64 0, .int .i64 0, .int .i64 1] := ⟨_, rfl⟩
        rw [← hY] at hs hy
        have y0 : Y.cell? ⟨bR, 0, none⟩ = some (.int .i64 0) := by rw [cell_at hy]; rfl
        have y1 : Y.cell? ⟨bR, 1, none⟩ = some (.int .i64 0) := by rw [cell_at hy]; rfl
        have y2 : Y.cell? ⟨bR, 2, none⟩ = some (.int .i64 0) := by rw [cell_at hy]; rfl
        have y3 : Y.cell? ⟨bR, 3, none⟩ = some (.int .i64 1) := by rw [cell_at hy]; rfl
        have HBY : Hid (Below W.heap.size W Y) := by rw [hY]; exact below_setCells (unhide HLO) _ _ _ _ (unhide HBX)
        clear hy hY
        go_wp2_with fail
        exact bodyPost_ret (v := .agg #[.int .i64 0, .int .i64 0, .int .i64 0, .int .i64 1]) (by simp [results, Tryd.results66, go_sem, *]) rfl ⟨by rw [unhide HV]; rfl, unhide HBY⟩
  have z18' := beqF z18
  by_cases z19 : zo = 19
  · subst z19
    cases bA with
    | true =>
      cases bD with
      | true =>
        go_upto_region 5 with (first | (go_at_call 65; refine (unhide D1).mono ?_; rintro e X1 ⟨rfl, hw1⟩; have HX1 := hide hw1; clear hw1; have q01 := unhide HQ0 X1 (unhide HX1); have z1 := unhide HZ X1 (unhide HX1); obtain ⟨a0, a1, a2⟩ := unhide HN0 X1 (unhide HX1)))
        clear D1 l1 n0 n1 n2
        have l2 := unhide HL X1 (unhide HX1)
        have D3 := hide (unhide D2 X1 (unhide HX1))
        go_upto_region 6 with (first | (go_at_call 65; refine (unhide D3).mono ?_; rintro e X ⟨rfl, hw2⟩; have HXX : Hid (Below W1.heap.size W1 X) := (unhide HX1).trans (hw2.mono (unhide HX1).size); clear hw2; have q02 := unhide HQ0 X (unhide HXX); have z2 := unhide HZ X (unhide HXX); obtain ⟨b0, b1, b2⟩ := unhide HN0 X (unhide HXX)))
        clear D2 D3 l2 a0 a1 a2 q01 z1
        have HRB := hide (unhide HRF X (unhide HXX))
        have HBX : Hid (Below W.heap.size W X) := (unhide HB1).trans ((unhide HXX).mono (unhide HB1).size)
        clear HRF HZ HQ0 HN0 HL HXX HX1
        by_cases o4 : o = 4
        · subst o4
          have HV : Hid (sngS q.nodes k = (0, 0, 1, 0)) := by show _ = _; rw [unhide HSG]; simp [*]
          have hs : (st77 (.pointer (some ⟨bR, 0, none⟩)) (.agg #[.int .i64 0, .int .i64 0, .int .i64 1, .int .i64 0])).run Tryd.prog X = .ok () (X.setCells bR 0 [.int .i64 0, .int .i64 0, .int .i64 1, .int .i64 0]) := run_st77 (unhide HRB) 0 0 1 0
          have hy := heap_setCells4 (v0 := .int .i64 0) (v1 := .int .i64 0) (v2 := .int .i64 1) (v3 := .int .i64 0) (unhide HRB)
          obtain ⟨Y, hY⟩ : ∃ Y, Y = X.setCells bR 0 [.int .i64 0, .int .i64 0, .int .i64 1, .int .i64 0] := ⟨_, rfl⟩
          rw [← hY] at hs hy
          have y0 : Y.cell? ⟨bR, 0, none⟩ = some (.int .i64 0) := by rw [cell_at hy]; rfl
          have y1 : Y.cell? ⟨bR, 1, none⟩ = some (.int .i64 0) := by rw [cell_at hy]; rfl
          have y2 : Y.cell? ⟨bR, 2, none⟩ = some (.int .i64 1) := by rw [cell_at hy]; rfl
          have y3 : Y.cell? ⟨bR, 3, none⟩ = some (.int .i64 0) := by rw [cell_at hy]; rfl
          have HBY : Hid (Below W.heap.size W Y) := by rw [hY]; exact below_setCells (unhide HLO) _ _ _ _ (unhide HBX)
          clear hy hY
          go_wp2_with fail
          exact bodyPost_ret (v := .agg #[.int .i64 0, .int .i64 0, .int .i64 1, .int .i64 0]) (by simp [results, Tryd.results66, go_sem, *]) rfl ⟨by rw [unhide HV]; rfl, unhide HBY⟩
        have o4' := beqF o4
        by_cases o10 : o = 10
        · subst o10
          have HV : Hid (sngS q.nodes k = (0, 0, 0, 1)) := by show _ = _; rw [unhide HSG]; simp [*]
          have hs : (st77 (.pointer (some ⟨bR, 0, none⟩)) (.agg #[.int .i64 0, .int .i64 0, .int .i64 0, .int .i64 1])).run Tryd.prog X = .ok () (X.setCells bR 0 [.int .i64 0, .int .i64 0, .int .i64 0, .int .i64 1]) := run_st77 (unhide HRB) 0 0 0 1
          have hy := heap_setCells4 (v0 := .int .i64 0) (v1 := .int .i64 0) (v2 := .int .i64 0) (v3 := .int .i64 1) (unhide HRB)
          obtain ⟨Y, hY⟩ : ∃ Y, Y = X.setCells bR 0 [.int .i64 0, .int .i64 0, .int .i64 0, .int .i64 1] := ⟨_, rfl⟩
          rw [← hY] at hs hy
          have y0 : Y.cell? ⟨bR, 0, none⟩ = some (.int .i64 0) := by rw [cell_at hy]; rfl
          have y1 : Y.cell? ⟨bR, 1, none⟩ = some (.int .i64 0) := by rw [cell_at hy]; rfl
          have y2 : Y.cell? ⟨bR, 2, none⟩ = some (.int .i64 0) := by rw [cell_at hy]; rfl
          have y3 : Y.cell? ⟨bR, 3, none⟩ = some (.int .i64 1) := by rw [cell_at hy]; rfl
          have HBY : Hid (Below W.heap.size W Y) := by rw [hY]; exact below_setCells (unhide HLO) _ _ _ _ (unhide HBX)
          clear hy hY
          go_wp2_with fail
          exact bodyPost_ret (v := .agg #[.int .i64 0, .int .i64 0, .int .i64 0, .int .i64 1]) (by simp [results, Tryd.results66, go_sem, *]) rfl ⟨by rw [unhide HV]; rfl, unhide HBY⟩
        have o10' := beqF o10
        have o10'' : (o != 10) = true := by simpa using o10
        by_cases o5 : o = 5
        · subst o5
          have HV : Hid (sngS q.nodes k = (0, 0, 0, 1)) := by show _ = _; rw [unhide HSG]; simp [*]
          have hs : (st77 (.pointer (some ⟨bR, 0, none⟩)) (.agg #[.int .i64 0, .int .i64 0, .int .i64 0, .int .i64 1])).run Tryd.prog X = .ok () (X.setCells bR 0 [.int .i64 0, .int .i64 0, .int .i64 0, .int .i64 1]) := run_st77 (unhide HRB) 0 0 0 1
          have hy := heap_setCells4 (v0 := .int .i64 0) (v1 := .int .i64 0) (v2 := .int .i64 0) (v3 := .int .i64 1) (unhide HRB)
          obtain ⟨Y, hY⟩ : ∃ Y, Y = X.setCells bR 0 [.int .i64 0, .int .i64 0, .int .i64 0, .int .i64 1] := ⟨_, rfl⟩
          rw [← hY] at hs hy
          have y0 : Y.cell? ⟨bR, 0, none⟩ = some (.int .i64 0) := by rw [cell_at hy]; rfl
          have y1 : Y.cell? ⟨bR, 1, none⟩ = some (.int .i64 0) := by rw [cell_at hy]; rfl
          have y2 : Y.cell? ⟨bR, 2, none⟩ = some (.int .i64 0) := by rw [cell_at hy]; rfl
          have y3 : Y.cell? ⟨bR, 3, none⟩ = some (.int .i64 1) := by rw [cell_at hy]; rfl
          have HBY : Hid (Below W.heap.size W Y) := by rw [hY]; exact below_setCells (unhide HLO) _ _ _ _ (unhide HBX)
          clear hy hY
          go_wp2_with fail
          exact bodyPost_ret (v := .agg #[.int .i64 0, .int .i64 0, .int .i64 0, .int .i64 1]) (by simp [results, Tryd.results66, go_sem, *]) rfl ⟨by rw [unhide HV]; rfl, unhide HBY⟩
        have o5' := beqF o5
        have o5'' : (o != 5) = true := by simpa using o5
        have o69 : (o == 6 || (o == 7 || (o == 8 || o == 9))) = true := by
          have : o = 6 ∨ o = 7 ∨ o = 8 ∨ o = 9 := by omega
          rcases this with h | h | h | h <;> rw [h] <;> rfl
        have HV : Hid (sngS q.nodes k = (0, 0, 1, 0)) := by show _ = _; rw [unhide HSG]; simp [*]
        have hs : (st77 (.pointer (some ⟨bR, 0, none⟩)) (.agg #[.int .i64 0, .int .i64 0, .int .i64 1, .int .i64 0])).run Tryd.prog X = .ok () (X.setCells bR 0 [.int .i64 0, .int .i64 0, .int .i64 1, .int .i64 0]) := run_st77 (unhide HRB) 0 0 1 0
        have hy := heap_setCells4 (v0 := .int .i64 0) (v1 := .int .i64 0) (v2 := .int .i64 1) (v3 := .int .i64 0) (unhide HRB)
        obtain ⟨Y, hY⟩ : ∃ Y, Y = X.setCells bR 0 [.int .i64 0, .int .i64 0, .int .i64 1, .int .i64 0] := ⟨_, rfl⟩
        rw [← hY] at hs hy
        have y0 : Y.cell? ⟨bR, 0, none⟩ = some (.int .i64 0) := by rw [cell_at hy]; rfl
        have y1 : Y.cell? ⟨bR, 1, none⟩ = some (.int .i64 0) := by rw [cell_at hy]; rfl
        have y2 : Y.cell? ⟨bR, 2, none⟩ = some (.int .i64 1) := by rw [cell_at hy]; rfl
        have y3 : Y.cell? ⟨bR, 3, none⟩ = some (.int .i64 0) := by rw [cell_at hy]; rfl
        have HBY : Hid (Below W.heap.size W Y) := by rw [hY]; exact below_setCells (unhide HLO) _ _ _ _ (unhide HBX)
        clear hy hY
        go_wp2_with fail
        exact bodyPost_ret (v := .agg #[.int .i64 0, .int .i64 0, .int .i64 1, .int .i64 0]) (by simp [results, Tryd.results66, go_sem, *]) rfl ⟨by rw [unhide HV]; rfl, unhide HBY⟩
      | false =>
        go_upto_region 5 with (first | (go_at_call 65; refine (unhide D1).mono ?_; rintro e X1 ⟨rfl, hw1⟩; have HX1 := hide hw1; clear hw1; have q01 := unhide HQ0 X1 (unhide HX1); have z1 := unhide HZ X1 (unhide HX1); obtain ⟨a0, a1, a2⟩ := unhide HN0 X1 (unhide HX1)))
        clear D1 l1 n0 n1 n2
        have l2 := unhide HL X1 (unhide HX1)
        have D3 := hide (unhide D2 X1 (unhide HX1))
        go_upto_region 6 with (first | (go_at_call 65; refine (unhide D3).mono ?_; rintro e X ⟨rfl, hw2⟩; have HXX : Hid (Below W1.heap.size W1 X) := (unhide HX1).trans (hw2.mono (unhide HX1).size); clear hw2; have q02 := unhide HQ0 X (unhide HXX); have z2 := unhide HZ X (unhide HXX); obtain ⟨b0, b1, b2⟩ := unhide HN0 X (unhide HXX)))
        clear D2 D3 l2 a0 a1 a2 q01 z1
        have HRB := hide (unhide HRF X (unhide HXX))
        have HBX : Hid (Below W.heap.size W X) := (unhide HB1).trans ((unhide HXX).mono (unhide HB1).size)
        clear HRF HZ HQ0 HN0 HL HXX HX1
        by_cases o4 : o = 4
        · subst o4
          have HV : Hid (sngS q.nodes k = (0, 0, 0, 1)) := by show _ = _; rw [unhide HSG]; simp [*]
          have hs : (st77 (.pointer (some ⟨bR, 0, none⟩)) (.agg #[.int .i64 0, .int .i64 0, .int .i64 0, .int .i64 1])).run Tryd.prog X = .ok () (X.setCells bR 0 [.int .i64 0, .int .i64 0, .int .i64 0, .int .i64 1]) := run_st77 (unhide HRB) 0 0 0 1
          have hy := heap_setCells4 (v0 := .int .i64 0) (v1 := .int .i64 0) (v2 := .int .i64 0) (v3 := .int .i64 1) (unhide HRB)
          obtain ⟨Y, hY⟩ : ∃ Y, Y = X.setCells bR 0 [.int .i64 0, .int .i64 0, .int .i64 0, .int .i64 1] := ⟨_, rfl⟩
          rw [← hY] at hs hy
          have y0 : Y.cell? ⟨bR, 0, none⟩ = some (.int .i64 0) := by rw [cell_at hy]; rfl
          have y1 : Y.cell? ⟨bR, 1, none⟩ = some (.int .i64 0) := by rw [cell_at hy]; rfl
          have y2 : Y.cell? ⟨bR, 2, none⟩ = some (.int .i64 0) := by rw [cell_at hy]; rfl
          have y3 : Y.cell? ⟨bR, 3, none⟩ = some (.int .i64 1) := by rw [cell_at hy]; rfl
          have HBY : Hid (Below W.heap.size W Y) := by rw [hY]; exact below_setCells (unhide HLO) _ _ _ _ (unhide HBX)
          clear hy hY
          go_wp2_with fail
          exact bodyPost_ret (v := .agg #[.int .i64 0, .int .i64 0, .int .i64 0, .int .i64 1]) (by simp [results, Tryd.results66, go_sem, *]) rfl ⟨by rw [unhide HV]; rfl, unhide HBY⟩
        have o4' := beqF o4
        by_cases o10 : o = 10
        · subst o10
          have HV : Hid (sngS q.nodes k = (0, 0, 0, 1)) := by show _ = _; rw [unhide HSG]; simp [*]
          have hs : (st77 (.pointer (some ⟨bR, 0, none⟩)) (.agg #[.int .i64 0, .int .i64 0, .int .i64 0, .int .i64 1])).run Tryd.prog X = .ok () (X.setCells bR 0 [.int .i64 0, .int .i64 0, .int .i64 0, .int .i64 1]) := run_st77 (unhide HRB) 0 0 0 1
          have hy := heap_setCells4 (v0 := .int .i64 0) (v1 := .int .i64 0) (v2 := .int .i64 0) (v3 := .int .i64 1) (unhide HRB)
          obtain ⟨Y, hY⟩ : ∃ Y, Y = X.setCells bR 0 [.int .i64 0, .int .i64 0, .int .i64 0, .int .i64 1] := ⟨_, rfl⟩
          rw [← hY] at hs hy
          have y0 : Y.cell? ⟨bR, 0, none⟩ = some (.int .i64 0) := by rw [cell_at hy]; rfl
          have y1 : Y.cell? ⟨bR, 1, none⟩ = some (.int .i64 0) := by rw [cell_at hy]; rfl
          have y2 : Y.cell? ⟨bR, 2, none⟩ = some (.int .i64 0) := by rw [cell_at hy]; rfl
          have y3 : Y.cell? ⟨bR, 3, none⟩ = some (.int .i64 1) := by rw [cell_at hy]; rfl
          have HBY : Hid (Below W.heap.size W Y) := by rw [hY]; exact below_setCells (unhide HLO) _ _ _ _ (unhide HBX)
          clear hy hY
          go_wp2_with fail
          exact bodyPost_ret (v := .agg #[.int .i64 0, .int .i64 0, .int .i64 0, .int .i64 1]) (by simp [results, Tryd.results66, go_sem, *]) rfl ⟨by rw [unhide HV]; rfl, unhide HBY⟩
        have o10' := beqF o10
        have o10'' : (o != 10) = true := by simpa using o10
        by_cases o5 : o = 5
        · subst o5
          have HV : Hid (sngS q.nodes k = (0, 0, 0, 1)) := by show _ = _; rw [unhide HSG]; simp [*]
          have hs : (st77 (.pointer (some ⟨bR, 0, none⟩)) (.agg #[.int .i64 0, .int .i64 0, .int .i64 0, .int .i64 1])).run Tryd.prog X = .ok () (X.setCells bR 0 [.int .i64 0, .int .i64 0, .int .i64 0, .int .i64 1]) := run_st77 (unhide HRB) 0 0 0 1
          have hy := heap_setCells4 (v0 := .int .i64 0) (v1 := .int .i64 0) (v2 := .int .i64 0) (v3 := .int .i64 1) (unhide HRB)
          obtain ⟨Y, hY⟩ : ∃ Y, Y = X.setCells bR 0 [.int .i64 0, .int .i64 0, .int .i64 0, .int .i64 1] := ⟨_, rfl⟩
          rw [← hY] at hs hy
          have y0 : Y.cell? ⟨bR, 0, none⟩ = some (.int .i64 0) := by rw [cell_at hy]; rfl
          have y1 : Y.cell? ⟨bR, 1, none⟩ = some (.int .i64 0) := by rw [cell_at hy]; rfl
          have y2 : Y.cell? ⟨bR, 2, none⟩ = some (.int .i64 0) := by rw [cell_at hy]; rfl
          have y3 : Y.cell? ⟨bR, 3, none⟩ = some (.int .i64 1) := by rw [cell_at hy]; rfl
          have HBY : Hid (Below W.heap.size W Y) := by rw [hY]; exact below_setCells (unhide HLO) _ _ _ _ (unhide HBX)
          clear hy hY
          go_wp2_with fail
          exact bodyPost_ret (v := .agg #[.int .i64 0, .int .i64 0, .int .i64 0, .int .i64 1]) (by simp [results, Tryd.results66, go_sem, *]) rfl ⟨by rw [unhide HV]; rfl, unhide HBY⟩
        have o5' := beqF o5
        have o5'' : (o != 5) = true := by simpa using o5
        have o69 : (o == 6 || (o == 7 || (o == 8 || o == 9))) = true := by
          have : o = 6 ∨ o = 7 ∨ o = 8 ∨ o = 9 := by omega
          rcases this with h | h | h | h <;> rw [h] <;> rfl
        have HV : Hid (sngS q.nodes k = (0, 0, 0, 1)) := by show _ = _; rw [unhide HSG]; simp [*]
        have hs : (st77 (.pointer (some ⟨bR, 0, none⟩)) (.agg #[.int .i64 0, .int .i64 0, .int .i64 0, .int .i64 1])).run Tryd.prog X = .ok () (X.setCells bR 0 [.int .i64 0, .int .i64 0, .int .i64 0, .int .i64 1]) := run_st77 (unhide HRB) 0 0 0 1
        have hy := heap_setCells4 (v0 := .int .i64 0) (v1 := .int .i64 0) (v2 := .int .i64 0) (v3 := .int .i64 1) (unhide HRB)
        obtain ⟨Y, hY⟩ : ∃ Y, Y = X.setCells bR 0 [.int .i64 0, .int .i64 0, .int .i64 0, .int .i64 1] := ⟨_, rfl⟩
        rw [← hY] at hs hy
        have y0 : Y.cell? ⟨bR, 0, none⟩ = some (.int .i64 0) := by rw [cell_at hy]; rfl
        have y1 : Y.cell? ⟨bR, 1, none⟩ = some (.int .i64 0) := by rw [cell_at hy]; rfl
        have y2 : Y.cell? ⟨bR, 2, none⟩ = some (.int .i64 0) := by rw [cell_at hy]; rfl
        have y3 : Y.cell? ⟨bR, 3, none⟩ = some (.int .i64 1) := by rw [cell_at hy]; rfl
        have HBY : Hid (Below W.heap.size W Y) := by rw [hY]; exact below_setCells (unhide HLO) _ _ _ _ (unhide HBX)
        clear hy hY
        go_wp2_with fail
        exact bodyPost_ret (v := .agg #[.int .i64 0, .int .i64 0, .int .i64 0, .int .i64 1]) (by simp [results, Tryd.results66, go_sem, *]) rfl ⟨by rw [unhide HV]; rfl, unhide HBY⟩
    | false =>
      cases bD with
      | true =>
        go_upto_region 5 with (first | (go_at_call 65; refine (unhide D1).mono ?_; rintro e X1 ⟨rfl, hw1⟩; have HX1 := hide hw1; clear hw1; have q01 := unhide HQ0 X1 (unhide HX1); have z1 := unhide HZ X1 (unhide HX1); obtain ⟨a0, a1, a2⟩ := unhide HN0 X1 (unhide HX1)))
        clear D1 l1 n0 n1 n2
        have l2 := unhide HL X1 (unhide HX1)
        have D3 := hide (unhide D2 X1 (unhide HX1))
        go_upto_region 6 with (first | (go_at_call 65; refine (unhide D3).mono ?_; rintro e X ⟨rfl, hw2⟩; have HXX : Hid (Below W1.heap.size W1 X) := (unhide HX1).trans (hw2.mono (unhide HX1).size); clear hw2; have q02 := unhide HQ0 X (unhide HXX); have z2 := unhide HZ X (unhide HXX); obtain ⟨b0, b1, b2⟩ := unhide HN0 X (unhide HXX)))
        clear D2 D3 l2 a0 a1 a2 q01 z1
        have HRB := hide (unhide HRF X (unhide HXX))
        have HBX : Hid (Below W.heap.size W X) := (unhide HB1).trans ((unhide HXX).mono (unhide HB1).size)
        clear HRF HZ HQ0 HN0 HL HXX HX1
        by_cases o4 : o = 4
        · subst o4
          have HV : Hid (sngS q.nodes k = (0, 0, 1, 0)) := by show _ = _; rw [unhide HSG]; simp [*]
          have hs : (st77 (.pointer (some ⟨bR, 0, none⟩)) (.agg #[.int .i64 0, .int .i64 0, .int .i64 1, .int .i64 0])).run Tryd.prog X = .ok () (X.setCells bR 0 [.int .i64 0, .int .i64 0, .int .i64 1, .int .i64 0]) := run_st77 (unhide HRB) 0 0 1 0
          have hy := heap_setCells4 (v0 := .int .i64 0) (v1 := .int .i64 0) (v2 := .int .i64 1) (v3 := .int .i64 0) (unhide HRB)
          obtain ⟨Y, hY⟩ : ∃ Y, Y = X.setCells bR 0 [.int .i64 0, .int .i64 0, .int .i64 1, .int .i64 0] := ⟨_, rfl⟩
          rw [← hY] at hs hy
          have y0 : Y.cell? ⟨bR, 0, none⟩ = some (.int .i64 0) := by rw [cell_at hy]; rfl
          have y1 : Y.cell? ⟨bR, 1, none⟩ = some (.int .i64 0) := by rw [cell_at hy]; rfl
          have y2 : Y.cell? ⟨bR, 2, none⟩ = some (.int .i64 1) := by rw [cell_at hy]; rfl
          have y3 : Y.cell? ⟨bR, 3, none⟩ = some (.int .i64 0) := by rw [cell_at hy]; rfl
          have HBY : Hid (Below W.heap.size W Y) := by rw [hY]; exact below_setCells (unhide HLO) _ _ _ _ (unhide HBX)
          clear hy hY
          go_wp2_with fail
          exact bodyPost_ret (v := .agg #[.int .i64 0, .int .i64 0, .int .i64 1, .int .i64 0]) (by simp [results, Tryd.results66, go_sem, *]) rfl ⟨by rw [unhide HV]; rfl, unhide HBY⟩
        have o4' := beqF o4
        by_cases o10 : o = 10
        · subst o10
          have HV : Hid (sngS q.nodes k = (0, 0, 0, 1)) := by show _ = _; rw [unhide HSG]; simp [*]
          have hs : (st77 (.pointer (some ⟨bR, 0, none⟩)) (.agg #[.int .i64 0, .int .i64 0, .int .i64 0, .int .i64 1])).run Tryd.prog X = .ok () (X.setCells bR 0 [.int .i64 0, .int .i64 0, .int .i64 0, .int .i64 1]) := run_st77 (unhide HRB) 0 0 0 1
          have hy := heap_setCells4 (v0 := .int .i64 0) (v1 := .int .i64 0) (v2 := .int .i64 0) (v3 := .int .i64 1) (unhide HRB)
          obtain ⟨Y, hY⟩ : ∃ Y, Y = X.setCells bR 0 [.int .i64 0, .int .i64 0, .int .i64 0, .int .i64 1] := ⟨_, rfl⟩
          rw [← hY] at hs hy
          have y0 : Y.cell? ⟨bR, 0, none⟩ = some (.int .i64 0) := by rw [cell_at hy]; rfl
          have y1 : Y.cell? ⟨bR, 1, none⟩ = some (.int .i64 0) := by rw [cell_at hy]; rfl
          have y2 : Y.cell? ⟨bR, 2, none⟩ = some (.int .i64 0) := by rw [cell_at hy]; rfl
          have y3 : Y.cell? ⟨bR, 3, none⟩ = some (.int .i64 1) := by rw [cell_at hy]; rfl
          have HBY : Hid (Below W.heap.size W Y) := by rw [hY]; exact below_setCells (unhide HLO) _ _ _ _ (unhide HBX)
          clear hy hY
          go_wp2_with fail
          exact bodyPost_ret (v := .agg #[.int .i64 0, .int .i64 0, .int .i64 0, .int .i64 1]) (by simp [results, Tryd.results66, go_sem, *]) rfl ⟨by rw [unhide HV]; rfl, unhide HBY⟩
        have o10' := beqF o10
        have o10'' : (o != 10) = true := by simpa using o10
        by_cases o5 : o = 5
        · subst o5
          have HV : Hid (sngS q.nodes k = (0, 0, 0, 1)) := by show _ = _; rw [unhide HSG]; simp [*]
          have hs : (st77 (.pointer (some ⟨bR, 0, none⟩)) (.agg #[.int .i64 0, .int .i64 0, .int .i64 0, .int .i64 1])).run Tryd.prog X = .ok () (X.setCells bR 0 [.int .i64 0, .int .i64 0, .int .i64 0, .int .i64 1]) := run_st77 (unhide HRB) 0 0 0 1
          have hy := heap_setCells4 (v0 := .int .i64 0) (v1 := .int .i64 0) (v2 := .int .i64 0) (v3 := .int .i64 1) (unhide HRB)
          obtain ⟨Y, hY⟩ : ∃ Y, Y = X.setCells bR 0 [.int .i64 0, .int .i64 0, .int .i64 0, .int .i64 1] := ⟨_, rfl⟩
          rw [← hY] at hs hy
          have y0 : Y.cell? ⟨bR, 0, none⟩ = some (.int .i64 0) := by rw [cell_at hy]; rfl
          have y1 : Y.cell? ⟨bR, 1, none⟩ = some (.int .i64 0) := by rw [cell_at hy]; rfl
          have y2 : Y.cell? ⟨bR, 2, none⟩ = some (.int .i64 0) := by rw [cell_at hy]; rfl
          have y3 : Y.cell? ⟨bR, 3, none⟩ = some (.int .i64 1) := by rw [cell_at hy]; rfl
          have HBY : Hid (Below W.heap.size W Y) := by rw [hY]; exact below_setCells (unhide HLO) _ _ _ _ (unhide HBX)
          clear hy hY
          go_wp2_with fail
          exact bodyPost_ret (v := .agg #[.int .i64 0, .int .i64 0, .int .i64 0, .int .i64 1]) (by simp [results, Tryd.results66, go_sem, *]) rfl ⟨by rw [unhide HV]; rfl, unhide HBY⟩
        have o5' := beqF o5
        have o5'' : (o != 5) = true := by simpa using o5
        have o69 : (o == 6 || (o == 7 || (o == 8 || o == 9))) = true := by
          have : o = 6 ∨ o = 7 ∨ o = 8 ∨ o = 9 := by omega
          rcases this with h | h | h | h <;> rw [h] <;> rfl
        have HV : Hid (sngS q.nodes k = (0, 0, 1, 0)) := by show _ = _; rw [unhide HSG]; simp [*]
        have hs : (st77 (.pointer (some ⟨bR, 0, none⟩)) (.agg #[.int .i64 0, .int .i64 0, .int .i64 1, .int .i64 0])).run Tryd.prog X = .ok () (X.setCells bR 0 [.int .i64 0, .int .i64 0, .int .i64 1, .int .i64 0]) := run_st77 (unhide HRB) 0 0 1 0
        have hy := heap_setCells4 (v0 := .int .i64 0) (v1 := .int .i64 0) (v2 := .int .i64 1) (v3 := .int .i64 0) (unhide HRB)
        obtain ⟨Y, hY⟩ : ∃ Y, Y = X.setCells bR 0 [.int .i64 0, .int .i64 0, .int .i64 1, .int .i64 0] := ⟨_, rfl⟩
        rw [← hY] at hs hy
        have y0 : Y.cell? ⟨bR, 0, none⟩ = some (.int .i64 0) := by rw [cell_at hy]; rfl
        have y1 : Y.cell? ⟨bR, 1, none⟩ = some (.int .i64 0) := by rw [cell_at hy]; rfl
        have y2 : Y.cell? ⟨bR, 2, none⟩ = some (.int .i64 1) := by rw [cell_at hy]; rfl
        have y3 : Y.cell? ⟨bR, 3, none⟩ = some (.int .i64 0) := by rw [cell_at hy]; rfl
        have HBY : Hid (Below W.heap.size W Y) := by rw [hY]; exact below_setCells (unhide HLO) _ _ _ _ (unhide HBX)
        clear hy hY
        go_wp2_with fail
        exact bodyPost_ret (v := .agg #[.int .i64 0, .int .i64 0, .int .i64 1, .int .i64 0]) (by simp [results, Tryd.results66, go_sem, *]) rfl ⟨by rw [unhide HV]; rfl, unhide HBY⟩
      | false =>
        go_upto_region 5 with (first | (go_at_call 65; refine (unhide D1).mono ?_; rintro e X1 ⟨rfl, hw1⟩; have HX1 := hide hw1; clear hw1; have q01 := unhide HQ0 X1 (unhide HX1); have z1 := unhide HZ X1 (unhide HX1); obtain ⟨a0, a1, a2⟩ := unhide HN0 X1 (unhide HX1)))
        clear D1 l1 n0 n1 n2
        have l2 := unhide HL X1 (unhide HX1)
        have D3 := hide (unhide D2 X1 (unhide HX1))
        go_upto_region 6 with (first | (go_at_call 65; refine (unhide D3).mono ?_; rintro e X ⟨rfl, hw2⟩; have HXX : Hid (Below W1.heap.size W1 X) := (unhide HX1).trans (hw2.mono (unhide HX1).size); clear hw2; have q02 := unhide HQ0 X (unhide HXX); have z2 := unhide HZ X (unhide HXX); obtain ⟨b0, b1, b2⟩ := unhide HN0 X (unhide HXX)))
        clear D2 D3 l2 a0 a1 a2 q01 z1
        have HRB := hide (unhide HRF X (unhide HXX))
        have HBX : Hid (Below W.heap.size W X) := (unhide HB1).trans ((unhide HXX).mono (unhide HB1).size)
        clear HRF HZ HQ0 HN0 HL HXX HX1
        by_cases o4 : o = 4
        · subst o4
          have HV : Hid (sngS q.nodes k = (0, 0, 0, 1)) := by show _ = _; rw [unhide HSG]; simp [*]
          have hs : (st77 (.pointer (some ⟨bR, 0, none⟩)) (.agg #[.int .i64 0, .int .i64 0, .int .i64 0, .int .i64 1])).run Tryd.prog X = .ok () (X.setCells bR 0 [.int .i64 0, .int .i64 0, .int .i64 0, .int .i64 1]) := run_st77 (unhide HRB) 0 0 0 1
          have hy := heap_setCells4 (v0 := .int .i64 0) (v1 := .int .i64 0) (v2 := .int .i64 0) (v3 := .int .i64 1) (unhide HRB)
          obtain ⟨Y, hY⟩ : ∃ Y, Y = X.setCells bR 0 [.int .i64 0, .int .i64 0, .int .i64 0, .int .i64 1] := ⟨_, rfl⟩
          rw [← hY] at hs hy
          have y0 : Y.cell? ⟨bR, 0, none⟩ = some (.int .i64 0) := by rw [cell_at hy]; rfl
          have y1 : Y.cell? ⟨bR, 1, none⟩ = some (.int .i64 0) := by rw [cell_at hy]; rfl
          have y2 : Y.cell? ⟨bR, 2, none⟩ = some (.int .i64 0) := by rw [cell_at hy]; rfl
          have y3 : Y.cell? ⟨bR, 3, none⟩ = some (.int .i64 1) := by rw [cell_at hy]; rfl
          have HBY : Hid (Below W.heap.size W Y) := by rw [hY]; exact below_setCells (unhide HLO) _ _ _ _ (unhide HBX)
          clear hy hY
          go_wp2_with fail
          exact bodyPost_ret (v := .agg #[.int .i64 0, .int .i64 0, .int .i64 0, .int .i64 1]) (by simp [results, Tryd.results66, go_sem, *]) rfl ⟨by rw [unhide HV]; rfl, unhide HBY⟩
        have o4' := beqF o4
        by_cases o10 : o = 10
        · subst o10
          have HV : Hid (sngS q.nodes k = (0, 0, 0, 1)) := by show _ = _; rw [unhide HSG]; simp [*]
          have hs : (st77 (.pointer (some ⟨bR, 0, none⟩)) (.agg #[.int .i64 0, .int .i64 0, .int .i64 0, .int .i64 1])).run Tryd.prog X = .ok () (X.setCells bR 0 [.int .i64 0, .int .i64 0, .int .i64 0, .int .i64 1]) := run_st77 (unhide HRB) 0 0 0 1
          have hy := heap_setCells4 (v0 := .int .i64 0) (v1 := .int .i64 0) (v2 := .int .i64 0) (v3 := .int .i64 1) (unhide HRB)
          obtain ⟨Y, hY⟩ : ∃ Y, Y = X.setCells bR 0 [.int .i64 0, .int .i64 0, .int .i64 0, .int .i64 1] := ⟨_, rfl⟩
          rw [← hY] at hs hy
          have y0 : Y.cell? ⟨bR, 0, none⟩ = some (.int .i64 0) := by rw [cell_at hy]; rfl
          have y1 : Y.cell? ⟨bR, 1, none⟩ = some (.int .i64 0) := by rw [cell_at hy]; rfl
          have y2 : Y.cell? ⟨bR, 2, none⟩ = some (.int .i64 0) := by rw [cell_at hy]; rfl
          have y3 : Y.cell? ⟨bR, 3, none⟩ = some (.int .i64 1) := by rw [cell_at hy]; rfl
          have HBY : Hid (Below W.heap.size W Y) := by rw [hY]; exact below_setCells (unhide HLO) _ _ _ _ (unhide HBX)
          clear hy hY
          go_wp2_with fail
          exact bodyPost_ret (v := .agg #[.int .i64 0, .int .i64 0, .int .i64 0, .int .i64 1]) (by simp [results, Tryd.results66, go_sem, *]) rfl ⟨by rw [unhide HV]; rfl, unhide HBY⟩
        have o10' := beqF o10
        have o10'' : (o != 10) = true := by simpa using o10
        by_cases o5 : o = 5
        · subst o5
          have HV : Hid (sngS q.nodes k = (0, 0, 0, 1)) := by show _ = _; rw [unhide HSG]; simp [*]
          have hs : (st77 (.pointer (some ⟨bR, 0, none⟩)) (.agg #[.int .i64 0, .int .i64 0, .int .i64 0, .int .i64 1])).run Tryd.prog X = .ok () (X.setCells bR 0 [.int .i64 0, .int .i64 0, .int .i64 0, .int .i64 1]) := run_st77 (unhide HRB) 0 0 0 1
          have hy := heap_setCells4 (v0 := .int .i64 0) (v1 := .int .i64 0) (v2 := .int .i64 0) (v3 := .int .i64 1) (unhide HRB)
          obtain ⟨Y, hY⟩ : ∃ Y, Y = X.setCells bR 0 [.int .i64 0, .int .i64 0, .int .i64 0, .int .i64 1] := ⟨_, rfl⟩
          rw [← hY] at hs hy
          have y0 : Y.cell? ⟨bR, 0, none⟩ = some (.int .i64 0) := by rw [cell_at hy]; rfl
          have y1 : Y.cell? ⟨bR, 1, none⟩ = some (.int .i64 0) := by rw [cell_at hy]; rfl
          have y2 : Y.cell? ⟨bR, 2, none⟩ = some (.int .i64 0) := by rw [cell_at hy]; rfl
          have y3 : Y.cell? ⟨bR, 3, none⟩ = some (.int .i64 1) := by rw [cell_at hy]; rfl
          have HBY : Hid (Below W.heap.size W Y) := by rw [hY]; exact below_setCells (unhide HLO) _ _ _ _ (unhide HBX)
          clear hy hY
          go_wp2_with fail
          exact bodyPost_ret (v := .agg #[.int .i64 0, .int .i64 0, .int .i64 0, .int .i64 1]) (by simp [results, Tryd.results66, go_sem, *]) rfl ⟨by rw [unhide HV]; rfl, unhide HBY⟩
        have o5' := beqF o5
        have o5'' : (o != 5) = true := by simpa using o5
        have o69 : (o == 6 || (o == 7 || (o == 8 || o == 9))) = true := by
          have : o = 6 ∨ o = 7 ∨ o = 8 ∨ o = 9 := by omega
          rcases this with h | h | h | h <;> rw [h] <;> rfl
        have HV : Hid (sngS q.nodes k = (0, 0, 0, 1)) := by show _ = _; rw [unhide HSG]; simp [*]
        have hs : (st77 (.pointer (some ⟨bR, 0, none⟩)) (.agg #[.int .i64 0, .int .i64 0, .int .i64 0, .int .i64 1])).run Tryd.prog X = .ok () (X.setCells bR 0 [.int .i64 0, .int .i64 0, .int .i64 0, .int .i64 1]) := run_st77 (unhide HRB) 0 0 0 1
        have hy := heap_setCells4 (v0 := .int .i64 0) (v1 := .int .i64 0) (v2 := .int .i64 0) (v3 := .int .i64 1) (unhide HRB)
        obtain ⟨Y, hY⟩ : ∃ Y, Y = X.setCells bR 0 [.int .i64 0, .int .i64 0, .int .i64 0, .int .i64 1] := ⟨_, rfl⟩
        rw [← hY] at hs hy
        have y0 : Y.cell? ⟨bR, 0, none⟩ = some (.int .i64 0) := by rw [cell_at hy]; rfl
        have y1 : Y.cell? ⟨bR, 1, none⟩ = some (.int .i64 0) := by rw [cell_at hy]; rfl
        have y2 : Y.cell? ⟨bR, 2, none⟩ = some (.int .i64 0) := by rw [cell_at hy]; rfl
        have y3 : Y.cell? ⟨bR, 3, none⟩ = some (.int .i64 1) := by rw [cell_at hy]; rfl
        have HBY : Hid (Below W.heap.size W Y) := by rw [hY]; exact below_setCells (unhide HLO) _ _ _ _ (unhide HBX)
        clear hy hY
        go_wp2_with fail
        exact bodyPost_ret (v := .agg #[.int .i64 0, .int .i64 0, .int .i64 0, .int .i64 1]) (by simp [results, Tryd.results66, go_sem, *]) rfl ⟨by rw [unhide HV]; rfl, unhide HBY⟩
  have z19' := beqF z19
  cases bA with
  | true =>
    cases bD with
    | true =>
      go_upto_region 5 with (first | (go_at_call 65; refine (unhide D1).mono ?_; rintro e X1 ⟨rfl, hw1⟩; have HX1 := hide hw1; clear hw1; have q01 := unhide HQ0 X1 (unhide HX1); have z1 := unhide HZ X1 (unhide HX1); obtain ⟨a0, a1, a2⟩ := unhide HN0 X1 (unhide HX1)))
      clear D1 l1 n0 n1 n2
      have l2 := unhide HL X1 (unhide HX1)
      have D3 := hide (unhide D2 X1 (unhide HX1))
      go_upto_region 6 with (first | (go_at_call 65; refine (unhide D3).mono ?_; rintro e X ⟨rfl, hw2⟩; have HXX : Hid (Below W1.heap.size W1 X) := (unhide HX1).trans (hw2.mono (unhide HX1).size); clear hw2; have q02 := unhide HQ0 X (unhide HXX); have z2 := unhide HZ X (unhide HXX); obtain ⟨b0, b1, b2⟩ := unhide HN0 X (unhide HXX)))
      clear D2 D3 l2 a0 a1 a2 q01 z1
      have HRB := hide (unhide HRF X (unhide HXX))
      have HBX : Hid (Below W.heap.size W X) := (unhide HB1).trans ((unhide HXX).mono (unhide HB1).size)
      clear HRF HZ HQ0 HN0 HL HXX HX1
      by_cases o4 : o = 4
      · subst o4
        have HV : Hid (sngS q.nodes k = (0, 0, 0, 1)) := by show _ = _; rw [unhide HSG]; simp [*]
        have hs : (st77 (.pointer (some ⟨bR, 0, none⟩)) (.agg #[.int .i64 0, .int .i64 0, .int .i64 0, .int .i64 1])).run Tryd.prog X = .ok () (X.setCells bR 0 [.int .i64 0, .int .i64 0, .int .i64 0, .int .i64 1]) := run_st77 (unhide HRB) 0 0 0 1
        have hy := heap_setCells4 (v0 := .int .i64 0) (v1 := .int .i64 0) (v2 := .int .i64 0) (v3 := .int .i64 1) (unhide HRB)
        obtain ⟨Y, hY⟩ : ∃ Y, Y = X.setCells bR 0 [.int .i64 0, .int .i64 0, .int .i64 0, .int .i64 1] := ⟨_, rfl⟩
        rw [← hY] at hs hy
        have y0 : Y.cell? ⟨bR, 0, none⟩ = some (.int .i64 0) := by rw [cell_at hy]; rfl
        have y1 : Y.cell? ⟨bR, 1, none⟩ = some (.int .i64 0) := by rw [cell_at hy]; rfl
        have y2 : Y.cell? ⟨bR, 2, none⟩ = some (.int .i64 0) := by rw [cell_at hy]; rfl
        have y3 : Y.cell? ⟨bR, 3, none⟩ = some (.int .i64 1) := by rw [cell_at hy]; rfl
        have HBY : Hid (Below W.heap.size W Y) := by rw [hY]; exact below_setCells (unhide HLO) _ _ _ _ (unhide HBX)
        clear hy hY
        go_wp2_with fail
        exact bodyPost_ret (v := .agg #[.int .i64 0, .int .i64 0, .int .i64 0, .int .i64 1]) (by simp [results, Tryd.results66, go_sem, *]) rfl ⟨by rw [unhide HV]; rfl, unhide HBY⟩
      have o4' := beqF o4
      by_cases o10 : o = 10
      · subst o10
        have HV : Hid (sngS q.nodes k = (0, 0, 0, 1)) := by show _ = _; rw [unhide HSG]; simp [*]
        have hs : (st77 (.pointer (some ⟨bR, 0, none⟩)) (.agg #[.int .i64 0, .int .i64 0, .int .i64 0, .int .i64 1])).run Tryd.prog X = .ok () (X.setCells bR 0 [.int .i64 0, .int .i64 0, .int .i64 0, .int .i64 1]) := run_st77 (unhide HRB) 0 0 0 1
        have hy := heap_setCells4 (v0 := .int .i64 0) (v1 := .int .i64 0) (v2 := .int .i64 0) (v3 := .int .i64 1) (unhide HRB)
        obtain ⟨Y, hY⟩ : ∃ Y, Y = X.setCells bR 0 [.int .i64 0, .int .i64 0, .int .i64 0, .int .i64 1] := ⟨_, rfl⟩
        rw [← hY] at hs hy
        have y0 : Y.cell? ⟨bR, 0, none⟩ = some (.int .i64 0) := by rw [cell_at hy]; rfl
        have y1 : Y.cell? ⟨bR, 1, none⟩ = some (.int .i64 0) := by rw [cell_at hy]; rfl
        have y2 : Y.cell? ⟨bR, 2, none⟩ = some (.int .i64 0) := by rw [cell_at hy]; rfl
        have y3 : Y.cell? ⟨bR, 3, none⟩ = some (.int .i64 1) := by rw [cell_at hy]; rfl
        have HBY : Hid (Below W.heap.size W Y) := by rw [hY]; exact below_setCells (unhide HLO) _ _ _ _ (unhide HBX)
        clear hy hY
        go_wp2_with fail
        exact bodyPost_ret (v := .agg #[.int .i64 0, .int .i64 0, .int .i64 0, .int .i64 1]) (by simp [results, Tryd.results66, go_sem, *]) rfl ⟨by rw [unhide HV]; rfl, unhide HBY⟩
      have o10' := beqF o10
      have o10'' : (o != 10) = true := by simpa using o10
      by_cases o5 : o = 5
      · subst o5
        have HV : Hid (sngS q.nodes k = (0, 0, 0, 1)) := by show _ = _; rw [unhide HSG]; simp [*]
        have hs : (st77 (.pointer (some ⟨bR, 0, none⟩)) (.agg #[.int .i64 0, .int .i64 0, .int .i64 0, .int .i64 1])).run Tryd.prog X = .ok () (X.setCells bR 0 [.int .i64 0, .int .i64 0, .int .i64 0, .int .i64 1]) := run_st77 (unhide HRB) 0 0 0 1
        have hy := heap_setCells4 (v0 := .int .i64 0) (v1 := .int .i64 0) (v2 := .int .i64 0) (v3 := .int .i64 1) (unhide HRB)
        obtain ⟨Y, hY⟩ : ∃ Y, Y = X.setCells bR 0 [.int .i64 0, .int .i64 0, .int .i64 0, .int .i64 1] := ⟨_, rfl⟩
        rw [← hY] at hs hy
        have y0 : Y.cell? ⟨bR, 0, none⟩ = some (.int .i64 0) := by rw [cell_at hy]; rfl
        have y1 : Y.cell? ⟨bR, 1, none⟩ = some (.int .i64 0) := by rw [cell_at hy]; rfl
        have y2 : Y.cell? ⟨bR, 2, none⟩ = some (.int .i64 0) := by rw [cell_at hy]; rfl
        have y3 : Y.cell? ⟨bR, 3, none⟩ = some (.int .i64 1) := by rw [cell_at hy]; rfl
        have HBY : Hid (Below W.heap.size W Y) := by rw [hY]; exact below_setCells (unhide HLO) _ _ _ _ (unhide HBX)
        clear hy hY
        go_wp2_with fail
        exact bodyPost_ret (v := .agg #[.int .i64 0, .int .i64 0, .int .i64 0, .int .i64 1]) (by simp [results, Tryd.results66, go_sem, *]) rfl ⟨by rw [unhide HV]; rfl, unhide HBY⟩
      have o5' := beqF o5
      have o5'' : (o != 5) = true := by simpa using o5
      have o69 : (o == 6 || (o == 7 || (o == 8 || o == 9))) = true := by
        have : o = 6 ∨ o = 7 ∨ o = 8 ∨ o = 9 := by omega
        rcases this with h | h | h | h <;> rw [h] <;> rfl
      have HV : Hid (sngS q.nodes k = (0, 0, 0, 1)) := by show _ = _; rw [unhide HSG]; simp [*]
      have hs : (st77 (.pointer (some ⟨bR, 0, none⟩)) (.agg #[.int .i64 0, .int .i64 0, .int .i64 0, .int .i64 1])).run Tryd.prog X = .ok () (X.setCells bR 0 [.int .i64 0, .int .i64 0, .int .i64 0, .int .i64 1]) := run_st77 (unhide HRB) 0 0 0 1
      have hy := heap_setCells4 (v0 := .int .i64 0) (v1 := .int .i64 0) (v2 := .int .i64 0) (v3 := .int .i64 1) (unhide HRB)
      obtain ⟨Y, hY⟩ : ∃ Y, Y = X.setCells bR 0 [.int .i64 0, .int .i64 0, .int .i64 0, .int .i64 1] := ⟨_, rfl⟩
      rw [← hY] at hs hy
      have y0 : Y.cell? ⟨bR, 0, none⟩ = some (.int .i64 0) := by rw [cell_at hy]; rfl
      have y1 : Y.cell? ⟨bR, 1, none⟩ = some (.int .i64 0) := by rw [cell_at hy]; rfl
      have y2 : Y.cell? ⟨bR, 2, none⟩ = some (.int .i64 0) := by rw [cell_at hy]; rfl
      have y3 : Y.cell? ⟨bR, 3, none⟩ = some (.int .i64 1) := by rw [cell_at hy]; rfl
      have HBY : Hid (Below W.heap.size W Y) := by rw [hY]; exact below_setCells (unhide HLO) _ _ _ _ (unhide HBX)
      clear hy hY
      go_wp2_with fail
      exact bodyPost_ret (v := .agg #[.int .i64 0, .int .i64 0, .int .i64 0, .int .i64 1]) (by simp [results, Tryd.results66, go_sem, *]) rfl ⟨by rw [unhide HV]; rfl, unhide HBY⟩
    | false =>
      go_upto_region 5 with (first | (go_at_call 65; refine (unhide D1).mono ?_; rintro e X1 ⟨rfl, hw1⟩; have HX1 := hide hw1; clear hw1; have q01 := unhide HQ0 X1 (unhide HX1); have z1 := unhide HZ X1 (unhide HX1); obtain ⟨a0, a1, a2⟩ := unhide HN0 X1 (unhide HX1)))
      clear D1 l1 n0 n1 n2
      have l2 := unhide HL X1 (unhide HX1)
      have D3 := hide (unhide D2 X1 (unhide HX1))
      go_upto_region 6 with (first | (go_at_call 65; refine (unhide D3).mono ?_; rintro e X ⟨rfl, hw2⟩; have HXX : Hid (Below W1.heap.size W1 X) := (unhide HX1).trans (hw2.mono (unhide HX1).size); clear hw2; have q02 := unhide HQ0 X (unhide HXX); have z2 := unhide HZ X (unhide HXX); obtain ⟨b0, b1, b2⟩ := unhide HN0 X (unhide HXX)))
      clear D2 D3 l2 a0 a1 a2 q01 z1
      have HRB := hide (unhide HRF X (unhide HXX))
      have HBX : Hid (Below W.heap.size W X) := (unhide HB1).trans ((unhide HXX).mono (unhide HB1).size)
      clear HRF HZ HQ0 HN0 HL HXX HX1
      by_cases o4 : o = 4
      · subst o4
        have HV : Hid (sngS q.nodes k = (0, 0, 0, 1)) := by show _ = _; rw [unhide HSG]; simp [*]
        have hs : (st77 (.pointer (some ⟨bR, 0, none⟩)) (.agg #[.int .i64 0, .int .i64 0, .int .i64 0, .int .i64 1])).run Tryd.prog X = .ok () (X.setCells bR 0 [.int .i64 0, .int .i64 0, .int .i64 0, .int .i64 1]) := run_st77 (unhide HRB) 0 0 0 1
        have hy := heap_setCells4 (v0 := .int .i64 0) (v1 := .int .i64 0) (v2 := .int .i64 0) (v3 := .int .i64 1) (unhide HRB)
        obtain ⟨Y, hY⟩ : ∃ Y, Y = X.setCells bR 0 [.int .i64 0, .int .i64 0, .int .i64 0, .int .i64 1] := ⟨_, rfl⟩
        rw [← hY] at hs hy
        have y0 : Y.cell? ⟨bR, 0, none⟩ = some (.int .i64 0) := by rw [cell_at hy]; rfl
        have y1 : Y.cell? ⟨bR, 1, none⟩ = some (.int .i64 0) := by rw [cell_at hy]; rfl
        have y2 : Y.cell? ⟨bR, 2, none⟩ = some (.int .i64 0) := by rw [cell_at hy]; rfl
        have y3 : Y.cell? ⟨bR, 3, none⟩ = some (.int .i64 1) := by rw [cell_at hy]; rfl
        have HBY : Hid (Below W.heap.size W Y) := by rw [hY]; exact below_setCells (unhide HLO) _ _ _ _ (unhide HBX)
        clear hy hY
        go_wp2_with fail
        exact bodyPost_ret (v := .agg #[.int .i64 0, .int .i64 0, .int .i64 0, .int .i64 1]) (by simp [results, Tryd.results66, go_sem, *]) rfl ⟨by rw [unhide HV]; rfl, unhide HBY⟩
      have o4' := beqF o4
      by_cases o10 : o = 10
      · subst o10
        have HV : Hid (sngS q.nodes k = (0, 0, 0, 1)) := by show _ = _; rw [unhide HSG]; simp [*]
        have hs : (st77 (.pointer (some ⟨bR, 0, none⟩)) (.agg #[.int .i64 0, .int .i64 0, .int .i64 0, .int .i64 1])).run Tryd.prog X = .ok () (X.setCells bR 0 [.int .i64 0, .int .i64 0, .int .i64 0, .int .i64 1]) := run_st77 (unhide HRB) 0 0 0 1
        have hy := heap_setCells4 (v0 := .int .i64 0) (v1 := .int .i64 0) (v2 := .int .i64 0) (v3 := .int .i64 1) (unhide HRB)
        obtain ⟨Y, hY⟩ : ∃ Y, Y = X.setCells bR 0 [.int .i64 0, .int .i64 0, .int .i64 0, .int .i64 1] := ⟨_, rfl⟩
        rw [← hY] at hs hy
        have y0 : Y.cell? ⟨bR, 0, none⟩ = some (.int .i64 0) := by rw [cell_at hy]; rfl
        have y1 : Y.cell? ⟨bR, 1, none⟩ = some (.int .i64 0) := by rw [cell_at hy]; rfl
        have y2 : Y.cell? ⟨bR, 2, none⟩ = some (.int .i64 0) := by rw [cell_at hy]; rfl
        have y3 : Y.cell? ⟨bR, 3, none⟩ = some (.int .i64 1) := by rw [cell_at hy]; rfl
        have HBY : Hid (Below W.heap.size W Y) := by rw [hY]; exact below_setCells (unhide HLO) _ _ _ _ (unhide HBX)
        clear hy hY
        go_wp2_with fail
        exact bodyPost_ret (v := .agg #[.int .i64 0, .int .i64 0, .int .i64 0, .int .i64 1]) (by simp [results, Tryd.results66, go_sem, *]) rfl ⟨by rw [unhide HV]; rfl, unhide HBY⟩
      have o10' := beqF o10
      have o10'' : (o != 10) = true := by simpa using o10
      by_cases o5 : o = 5
      · subst o5
        have HV : Hid (sngS q.nodes k = (0, 0, 0, 1)) := by show _ = _; rw [unhide HSG]; simp [*]
        have hs : (st77 (.pointer (some ⟨bR, 0, none⟩)) (.agg #[.int .i64 0, .int .i64 0, .int .i64 0, .int .i64 1])).run Tryd.prog X = .ok () (X.setCells bR 0 [.int .i64 0, .int .i64 0, .int .i64 0, .int .i64 1]) := run_st77 (unhide HRB) 0 0 0 1
        have hy := heap_setCells4 (v0 := .int .i64 0) (v1 := .int .i64 0) (v2 := .int .i64 0) (v3 := .int .i64 1) (unhide HRB)
        obtain ⟨Y, hY⟩ : ∃ Y, Y = X.setCells bR 0 [.int .i64 0, .int .i64 0, .int .i64 0, .int .i64 1] := ⟨_, rfl⟩
        rw [← hY] at hs hy
        have y0 : Y.cell? ⟨bR, 0, none⟩ = some (.int .i64 0) := by rw [cell_at hy]; rfl
        have y1 : Y.cell? ⟨bR, 1, none⟩ = some (.int .i64 0) := by rw [cell_at hy]; rfl
        have y2 : Y.cell? ⟨bR, 2, none⟩ = some (.int .i64 0) := by rw [cell_at hy]; rfl
        have y3 : Y.cell? ⟨bR, 3, none⟩ = some (.int .i64 1) := by rw [cell_at hy]; rfl
        have HBY : Hid (Below W.heap.size W Y) := by rw [hY]; exact below_setCells (unhide HLO) _ _ _ _ (unhide HBX)
        clear hy hY
        go_wp2_with fail
        exact bodyPost_ret (v := .agg #[.int .i64 0, .int .i64 0, .int .i64 0, .int .i64 1]) (by simp [results, Tryd.results66, go_sem, *]) rfl ⟨by rw [unhide HV]; rfl, unhide HBY⟩
      have o5' := beqF o5
      have o5'' : (o != 5) = true := by simpa using o5
      have o69 : (o == 6 || (o == 7 || (o == 8 || o == 9))) = true := by
        have : o = 6 ∨ o = 7 ∨ o = 8 ∨ o = 9 := by omega
        rcases this with h | h | h | h <;> rw [h] <;> rfl
      have HV : Hid (sngS q.nodes k = (0, 0, 0, 1)) := by show _ = _; rw [unhide HSG]; simp [*]
      have hs : (st77 (.pointer (some ⟨bR, 0, none⟩)) (.agg #[.int .i64 0, .int .i64 0, .int .i64 0, .int .i64 1])).run Tryd.prog X = .ok () (X.setCells bR 0 [.int .i64 0, .int .i64 0, .int .i64 0, .int .i64 1]) := run_st77 (unhide HRB) 0 0 0 1
      have hy := heap_setCells4 (v0 := .int .i64 0) (v1 := .int .i64 0) (v2 := .int .i64 0) (v3 := .int .i64 1) (unhide HRB)
      obtain ⟨Y, hY⟩ : ∃ Y, Y = X.setCells bR 0 [.int .i64 0, .int .i64 0, .int .i64 0, .int .i64 1] := ⟨_, rfl⟩
      rw [← hY] at hs hy
      have y0 : Y.cell? ⟨bR, 0, none⟩ = some (.int .i64 0) := by rw [cell_at hy]; rfl
      have y1 : Y.cell? ⟨bR, 1, none⟩ = some (.int .i64 0) := by rw [cell_at hy]; rfl
      have y2 : Y.cell? ⟨bR, 2, none⟩ = some (.int .i64 0) := by rw [cell_at hy]; rfl
      have y3 : Y.cell? ⟨bR, 3, none⟩ = some (.int .i64 1) := by rw [cell_at hy]; rfl
      have HBY : Hid (Below W.heap.size W Y) := by rw [hY]; exact below_setCells (unhide HLO) _ _ _ _ (unhide HBX)
      clear hy hY
      go_wp2_with fail
      exact bodyPost_ret (v := .agg #[.int .i64 0, .int .i64 0, .int .i64 0, .int .i64 1]) (by simp [results, Tryd.results66, go_sem, *]) rfl ⟨by rw [unhide HV]; rfl, unhide HBY⟩
  | false =>
    cases bD with
    | true =>
      go_upto_region 5 with (first | (go_at_call 65; refine (unhide D1).mono ?_; rintro e X1 ⟨rfl, hw1⟩; have HX1 := hide hw1; clear hw1; have q01 := unhide HQ0 X1 (unhide HX1); have z1 := unhide HZ X1 (unhide HX1); obtain ⟨a0, a1, a2⟩ := unhide HN0 X1 (unhide HX1)))
      clear D1 l1 n0 n1 n2
      have l2 := unhide HL X1 (unhide HX1)
      have D3 := hide (unhide D2 X1 (unhide HX1))
      go_upto_region 6 with (first | (go_at_call 65; refine (unhide D3).mono ?_; rintro e X ⟨rfl, hw2⟩; have HXX : Hid (Below W1.heap.size W1 X) := (unhide HX1).trans (hw2.mono (unhide HX1).size); clear hw2; have q02 := unhide HQ0 X (unhide HXX); have z2 := unhide HZ X (unhide HXX); obtain ⟨b0, b1, b2⟩ := unhide HN0 X (unhide HXX)))
      clear D2 D3 l2 a0 a1 a2 q01 z1
      have HRB := hide (unhide HRF X (unhide HXX))
      have HBX : Hid (Below W.heap.size W X) := (unhide HB1).trans ((unhide HXX).mono (unhide HB1).size)
      clear HRF HZ HQ0 HN0 HL HXX HX1
      by_cases o4 : o = 4
      · subst o4
        have HV : Hid (sngS q.nodes k = (0, 0, 0, 1)) := by show _ = _; rw [unhide HSG]; simp [*]
        have hs : (st77 (.pointer (some ⟨bR, 0, none⟩)) (.agg #[.int .i64 0, .int .i64 0, .int .i64 0, .int .i64 1])).run Tryd.prog X = .ok () (X.setCells bR 0 [.int .i64 0, .int .i64 0, .int .i64 0, .int .i64 1]) := run_st77 (unhide HRB) 0 0 0 1
        have hy := heap_setCells4 (v0 := .int .i64 0) (v1 := .int .i64 0) (v2 := .int .i64 0) (v3 := .int .i64 1) (unhide HRB)
        obtain ⟨Y, hY⟩ : ∃ Y, Y = X.setCells bR 0 [.int .i64 0, .int .i64 0, .int .i64 0, .int .i64 1] := ⟨_, rfl⟩
        rw [← hY] at hs hy
        have y0 : Y.cell? ⟨bR, 0, none⟩ = some (.int .i64 0) := by rw [cell_at hy]; rfl
        have y1 : Y.cell? ⟨bR, 1, none⟩ = some (.int .i64 0) := by rw [cell_at hy]; rfl
        have y2 : Y.cell? ⟨bR, 2, none⟩ = some (.int .i64 0) := by rw [cell_at hy]; rfl
        have y3 : Y.cell? ⟨bR, 3, none⟩ = some (.int .i64 1) := by rw [cell_at hy]; rfl
        have HBY : Hid (Below W.heap.size W Y) := by rw [hY]; exact below_setCells (unhide HLO) _ _ _ _ (unhide HBX)
        clear hy hY
        go_wp2_with fail
        exact bodyPost_ret (v := .agg #[.int .i64 0, .int .i64 0, .int .i64 0, .int .i64 1]) (by simp [results, Tryd.results66, go_sem, *]) rfl ⟨by rw [unhide HV]; rfl, unhide HBY⟩
      have o4' := beqF o4
      by_cases o10 : o = 10
      · subst o10
        have HV : Hid (sngS q.nodes k = (0, 0, 0, 1)) := by show _ = _; rw [unhide HSG]; simp [*]
        have hs : (st77 (.pointer (some ⟨bR, 0, none⟩)) (.agg #[.int .i64 0, .int .i64 0, .int .i64 0, .int .i64 1])).run Tryd.prog X = .ok () (X.setCells bR 0 [.int .i64 0, .int .i64 0, .int .i64 0, .int .i64 1]) := run_st77 (unhide HRB) 0 0 0 1
        have hy := heap_setCells4 (v0 := .int .i64 0) (v1 := .int .i64 0) (v2 := .int .i64 0) (v3 := .int .i64 1) (unhide HRB)
        obtain ⟨Y, hY⟩ : ∃ Y, Y = X.setCells bR 0 [.int .i64 0, .int .i64 0, .int .i64 0, .int .i64 1] := ⟨_, rfl⟩
        rw [← hY] at hs hy
        have y0 : Y.cell? ⟨bR, 0, none⟩ = some (.int .i64 0) := by rw [cell_at hy]; rfl
        have y1 : Y.cell? ⟨bR, 1, none⟩ = some (.int .i64 0) := by rw [cell_at hy]; rfl
        have y2 : Y.cell? ⟨bR, 2, none⟩ = some (.int .i64 0) := by rw [cell_at hy]; rfl
        have y3 : Y.cell? ⟨bR, 3, none⟩ = some (.int .i64 1) := by rw [cell_at hy]; rfl
        have HBY : Hid (Below W.heap.size W Y) := by rw [hY]; exact below_setCells (unhide HLO) _ _ _ _ (unhide HBX)
        clear hy hY
        go_wp2_with fail
        exact bodyPost_ret (v := .agg #[.int .i64 0, .int .i64 0, .int .i64 0, .int .i64 1]) (by simp [results, Tryd.results66, go_sem, *]) rfl ⟨by rw [unhide HV]; rfl, unhide HBY⟩
      have o10' := beqF o10
      have o10'' : (o != 10) = true := by simpa using o10
      by_cases o5 : o = 5
      · subst o5
        have HV : Hid (sngS q.nodes k = (0, 0, 0, 1)) := by show _ = _; rw [unhide HSG]; simp [*]
        have hs : (st77 (.pointer (some ⟨bR, 0, none⟩)) (.agg #[.int .i64 0, .int .i64 0, .int .i64 0, .int .i64 1])).run Tryd.prog X = .ok () (X.setCells bR 0 [.int .i64 0, .int .i64 0, .int .i64 0, .int .i64 1]) := run_st77 (unhide HRB) 0 0 0 1
        have hy := heap_setCells4 (v0 := .int .i64 0) (v1 := .int .i64 0) (v2 := .int .i64 0) (v3 := .int .i64 1) (unhide HRB)
        obtain ⟨Y, hY⟩ : ∃ Y, Y = X.setCells bR 0 [.int .i64 0, .int .i64 0, .int .i64 0, .int .i64 1] := ⟨_, rfl⟩
        rw [← hY] at hs hy
        have y0 : Y.cell? ⟨bR, 0, none⟩ = some (.int .i64 0) := by rw [cell_at hy]; rfl
        have y1 : Y.cell? ⟨bR, 1, none⟩ = some (.int .i64 0) := by rw [cell_at hy]; rfl
        have y2 : Y.cell? ⟨bR, 2, none⟩ = some (.int .i64 0) := by rw [cell_at hy]; rfl
        have y3 : Y.cell? ⟨bR, 3, none⟩ = some (.int .i64 1) := by rw [cell_at hy]; rfl
        have HBY : Hid (Below W.heap.size W Y) := by rw [hY]; exact below_setCells (unhide HLO) _ _ _ _ (unhide HBX)
        clear hy hY
        go_wp2_with fail
        exact bodyPost_ret (v := .agg #[.int .i64 0, .int .i64 0, .int .i64 0, .int .i64 1]) (by simp [results, Tryd.results66, go_sem, *]) rfl ⟨by rw [unhide HV]; rfl, unhide HBY⟩
      have o5' := beqF o5
      have o5'' : (o != 5) = true := by simpa using o5
      have o69 : (o == 6 || (o == 7 || (o == 8 || o == 9))) = true := by
        have : o = 6 ∨ o = 7 ∨ o = 8 ∨ o = 9 := by omega
        rcases this with h | h | h | h <;> rw [h] <;> rfl
      have HV : Hid (sngS q.nodes k = (0, 0, 0, 1)) := by show _ = _; rw [unhide HSG]; simp [*]
      have hs : (st77 (.pointer (some ⟨bR, 0, none⟩)) (.agg #[.int .i64 0, .int .i64 0, .int .i64 0, .int .i64 1])).run Tryd.prog X = .ok () (X.setCells bR 0 [.int .i64 0, .int .i64 0, .int .i64 0, .int .i64 1]) := run_st77 (unhide HRB) 0 0 0 1
      have hy := heap_setCells4 (v0 := .int .i64 0) (v1 := .int .i64 0) (v2 := .int .i64 0) (v3 := .int .i64 1) (unhide HRB)
      obtain ⟨Y, hY⟩ : ∃ Y, Y = X.setCells bR 0 [.int .i64 0, .int .i64 0, .int .i64 0, .int .i64 1] := ⟨_, rfl⟩
      rw [← hY] at hs hy
      have y0 : Y.cell? ⟨bR, 0, none⟩ = some (.int .i64 0) := by rw [cell_at hy]; rfl
      have y1 : Y.cell? ⟨bR, 1, none⟩ = some (.int .i64 0) := by rw [cell_at hy]; rfl
      have y2 : Y.cell? ⟨bR, 2, none⟩ = some (.int .i64 0) := by rw [cell_at hy]; rfl
      have y3 : Y.cell? ⟨bR, 3, none⟩ = some (.int .i64 1) := by rw [cell_at hy]; rfl
      have HBY : Hid (Below W.heap.size W Y) := by rw [hY]; exact below_setCells (unhide HLO) _ _ _ _ (unhide HBX)
      clear hy hY
      go_wp2_with fail
      exact bodyPost_ret (v := .agg #[.int .i64 0, .int .i64 0, .int .i64 0, .int .i64 1]) (by simp [results, Tryd.results66, go_sem, *]) rfl ⟨by rw [unhide HV]; rfl, unhide HBY⟩
    | false =>
      go_upto_region 5 with (first | (go_at_call 65; refine (unhide D1).mono ?_; rintro e X1 ⟨rfl, hw1⟩; have HX1 := hide hw1; clear hw1; have q01 := unhide HQ0 X1 (unhide HX1); have z1 := unhide HZ X1 (unhide HX1); obtain ⟨a0, a1, a2⟩ := unhide HN0 X1 (unhide HX1)))
      clear D1 l1 n0 n1 n2
      have l2 := unhide HL X1 (unhide HX1)
      have D3 := hide (unhide D2 X1 (unhide HX1))
      go_upto_region 6 with (first | (go_at_call 65; refine (unhide D3).mono ?_; rintro e X ⟨rfl, hw2⟩; have HXX : Hid (Below W1.heap.size W1 X) := (unhide HX1).trans (hw2.mono (unhide HX1).size); clear hw2; have q02 := unhide HQ0 X (unhide HXX); have z2 := unhide HZ X (unhide HXX); obtain ⟨b0, b1, b2⟩ := unhide HN0 X (unhide HXX)))
      clear D2 D3 l2 a0 a1 a2 q01 z1
      have HRB := hide (unhide HRF X (unhide HXX))
      have HBX : Hid (Below W.heap.size W X) := (unhide HB1).trans ((unhide HXX).mono (unhide HB1).size)
      clear HRF HZ HQ0 HN0 HL HXX HX1
      by_cases o4 : o = 4
      · subst o4
        have HV : Hid (sngS q.nodes k = (0, 0, 0, 1)) := by show _ = _; rw [unhide HSG]; simp [*]
        have hs : (st77 (.pointer (some ⟨bR, 0, none⟩)) (.agg #[.int .i64 0, .int .i64 0, .int .i64 0, .int .i64 1])).run Tryd.prog X = .ok () (X.setCells bR 0 [.int .i64 0, .int .i64 0, .int .i64 0, .int .i64 1]) := run_st77 (unhide HRB) 0 0 0 1
        have hy := heap_setCells4 (v0 := .int .i64 0) (v1 := .int .i64 0) (v2 := .int .i64 0) (v3 := .int .i64 1) (unhide HRB)
        obtain ⟨Y, hY⟩ : ∃ Y, Y = X.setCells bR 0 [.int .i64 0, .int .i64 0, .int .i64 0, .int .i64 1] := ⟨_, rfl⟩
        rw [← hY] at hs hy
        have y0 : Y.cell? ⟨bR, 0, none⟩ = some (.int .i64 0) := by rw [cell_at hy]; rfl
        have y1 : Y.cell? ⟨bR, 1, none⟩ = some (.int .i64 0) := by rw [cell_at hy]; rfl
        have y2 : Y.cell? ⟨bR, 2, none⟩ = some (.int .i64 0) := by rw [cell_at hy]; rfl
        have y3 : Y.cell? ⟨bR, 3, none⟩ = some (.int .i64 1) := by rw [cell_at hy]; rfl
        have HBY : Hid (Below W.heap.size W Y) := by rw [hY]; exact below_setCells (unhide HLO) _ _ _ _ (unhide HBX)
        clear hy hY
        go_wp2_with fail
        exact bodyPost_ret (v := .agg #[.int .i64 0, .int .i64 0, .int .i64 0, .int .i64 1]) (by simp [results, Tryd.results66, go_sem, *]) rfl ⟨by rw [unhide HV]; rfl, unhide HBY⟩
      have o4' := beqF o4
      by_cases o10 : o = 10
      · subst o10
        have HV : Hid (sngS q.nodes k = (0, 0, 0, 1)) := by show _ = _; rw [unhide HSG]; simp [*]
        have hs : (st77 (.pointer (some ⟨bR, 0, none⟩)) (.agg #[.int .i64 0, .int .i64 0, .int .i64 0, .int .i64 1])).run Tryd.prog X = .ok () (X.setCells bR 0 [.int .i64 0, .int .i64 0, .int .i64 0, .int .i64 1]) := run_st77 (unhide HRB) 0 0 0 1
        have hy := heap_setCells4 (v0 := .int .i64 0) (v1 := .int .i64 0) (v2 := .int .i64 0) (v3 := .int .i64 1) (unhide HRB)
        obtain ⟨Y, hY⟩ : ∃ Y, Y = X.setCells bR 0 [.int .i64 0, .int .i64 0, .int .i64 0, .int .i64 1] := ⟨_, rfl⟩
        rw [← hY] at hs hy
        have y0 : Y.cell? ⟨bR, 0, none⟩ = some (.int .i64 0) := by rw [cell_at hy]; rfl
        have y1 : Y.cell? ⟨bR, 1, none⟩ = some (.int .i64 0) := by rw [cell_at hy]; rfl
        have y2 : Y.cell? ⟨bR, 2, none⟩ = some (.int .i64 0) := by rw [cell_at hy]; rfl
        have y3 : Y.cell? ⟨bR, 3, none⟩ = some (.int .i64 1) := by rw [cell_at hy]; rfl
        have HBY : Hid (Below W.heap.size W Y) := by rw [hY]; exact below_setCells (unhide HLO) _ _ _ _ (unhide HBX)
        clear hy hY
        go_wp2_with fail
        exact bodyPost_ret (v := .agg #[.int .i64 0, .int .i64 0, .int .i64 0, .int .i64 1]) (by simp [results, Tryd.results66, go_sem, *]) rfl ⟨by rw [unhide HV]; rfl, unhide HBY⟩
      have o10' := beqF o10
      have o10'' : (o != 10) = true := by simpa using o10
      by_cases o5 : o = 5
      · subst o5
        have HV : Hid (sngS q.nodes k = (0, 0, 0, 1)) := by show _ = _; rw [unhide HSG]; simp [*]
        have hs : (st77 (.pointer (some ⟨bR, 0, none⟩)) (.agg #[.int .i64 0, .int .i64 0, .int .i64 0, .int .i64 1])).run Tryd.prog X = .ok () (X.setCells bR 0 [.int .i64 0, .int .i64 0, .int .i64 0, .int .i64 1]) := run_st77 (unhide HRB) 0 0 0 1
        have hy := heap_setCells4 (v0 := .int .i64 0) (v1 := .int .i64 0) (v2 := .int .i64 0) (v3 := .int .i64 1) (unhide HRB)
        obtain ⟨Y, hY⟩ : ∃ Y, Y = X.setCells bR 0 [.int .i64 0, .int .i64 0, .int .i64 0, .int .i64 1] := ⟨_, rfl⟩
        rw [← hY] at hs hy
        have y0 : Y.cell? ⟨bR, 0, none⟩ = some (.int .i64 0) := by rw [cell_at hy]; rfl
        have y1 : Y.cell? ⟨bR, 1, none⟩ = some (.int .i64 0) := by rw [cell_at hy]; rfl
        have y2 : Y.cell? ⟨bR, 2, none⟩ = some (.int .i64 0) := by rw [cell_at hy]; rfl
        have y3 : Y.cell? ⟨bR, 3, none⟩ = some (.int .i64 1) := by rw [cell_at hy]; rfl
        have HBY : Hid (Below W.heap.size W Y) := by rw [hY]; exact below_setCells (unhide HLO) _ _ _ _ (unhide HBX)
        clear hy hY
        go_wp2_with fail
        exact bodyPost_ret (v := .agg #[.int .i64 0, .int .i64 0, .int .i64 0, .int .i64 1]) (by simp [results, Tryd.results66, go_sem, *]) rfl ⟨by rw [unhide HV]; rfl, unhide HBY⟩
      have o5' := beqF o5
      have o5'' : (o != 5) = true := by simpa using o5
      have o69 : (o == 6 || (o == 7 || (o == 8 || o == 9))) = true := by
        have : o = 6 ∨ o = 7 ∨ o = 8 ∨ o = 9 := by omega
        rcases this with h | h | h | h <;> rw [h] <;> rfl
      have HV : Hid (sngS q.nodes k = (0, 0, 0, 1)) := by show _ = _; rw [unhide HSG]; simp [*]
      have hs : (st77 (.pointer (some ⟨bR, 0, none⟩)) (.agg #[.int .i64 0, .int .i64 0, .int .i64 0, .int .i64 1])).run Tryd.prog X = .ok () (X.setCells bR 0 [.int .i64 0, .int .i64 0, .int .i64 0, .int .i64 1]) := run_st77 (unhide HRB) 0 0 0 1
      have hy := heap_setCells4 (v0 := .int .i64 0) (v1 := .int .i64 0) (v2 := .int .i64 0) (v3 := .int .i64 1) (unhide HRB)
      obtain ⟨Y, hY⟩ : ∃ Y, Y = X.setCells bR 0 [.int .i64 0, .int .i64 0, .int .i64 0, .int .i64 1] := ⟨_, rfl⟩
      rw [← hY] at hs hy
      have y0 : Y.cell? ⟨bR, 0, none⟩ = some (.int .i64 0) := by rw [cell_at hy]; rfl
      have y1 : Y.cell? ⟨bR, 1, none⟩ = some (.int .i64 0) := by rw [cell_at hy]; rfl
      have y2 : Y.cell? ⟨bR, 2, none⟩ = some (.int .i64 0) := by rw [cell_at hy]; rfl
      have y3 : Y.cell? ⟨bR, 3, none⟩ = some (.int .i64 1) := by rw [cell_at hy]; rfl
      have HBY : Hid (Below W.heap.size W Y) := by rw [hY]; exact below_setCells (unhide HLO) _ _ _ _ (unhide HBX)
      clear hy hY
      go_wp2_with fail
      exact bodyPost_ret (v := .agg #[.int .i64 0, .int .i64 0, .int .i64 0, .int .i64 1]) (by simp [results, Tryd.results66, go_sem, *]) rfl ⟨by rw [unhide HV]; rfl, unhide HBY⟩
end Go.Proofs.YtcelllihidkphaaDoor
