/- typing, the document's: parts 40. -/
import Derived.Test.YtcelllihidkphaaDoorRpH
import Derived.Test.YtcelllihidkphaaDoorTyZ
namespace Go.Proofs.YtcelllihidkphaaDoor
open Go Go.Shelf Go.ChangeShapes Go.WideShapes Go.ChangeAt Go.RowKit Go.Maps
set_option linter.unusedVariables false
set_option linter.unusedSimpArgs false
set_option maxRecDepth 100000
set_option maxHeartbeats 8000000
def k4 : Kd T4 := ⟨fun x => [.int .i64 x.1, .int .i64 x.2.1, .int .i64 x.2.2.1, .int .i64 x.2.2.2], 4, 107, 77, 32⟩
theorem k4_ok : KdOK k4 := kd_ok (fun _ => rfl) (by decide) (fun x u hu => by simp [k4] at hu; rcases hu with rfl | rfl | rfl | rfl <;> rfl) Tryd.underlying107 (z := .agg #[.int .i64 0, .int .i64 0, .int .i64 0, .int .i64 0]) (by kernel_rfl) rfl (by decide)
def ld77 (x : Value) : Sem Value := Instr.loadAt 77 x
theorem ld77_is (x : Value) : Instr.loadAt 77 x = ld77 x := rfl
theorem run_ld77 {w : World} {b o : Nat} {x : T4} (h : w.rangeAt b o (k4.enc x)) : (ld77 (.pointer (some ⟨b, o, none⟩))).run Tryd.prog w = .ok (.agg #[.int .i64 x.1, .int .i64 x.2.1, .int .i64 x.2.2.1, .int .i64 x.2.2.2]) w :=
  run_loadAt_mid (P := Tryd.prog) w b o 77 (k4.enc x) _ h Tryd.underlying77 rfl size77
theorem range77 {w : World} {b : Nat} {t : TypeId} {x : T4} {f : Nat × Nat} (h : w.heap[b]? = some (.cells #[.int .i64 x.1, .int .i64 x.2.1, .int .i64 x.2.2.1, .int .i64 x.2.2.2] t f)) : w.rangeAt b 0 (k4.enc x) := fun j u hu => by
  rw [Nat.zero_add, cell_at h]; simpa [k4] using hu
theorem setCells_new4 (w : World) {x0 x1 x2 x3 v0 v1 v2 v3 : Value} : (w.alloc (.cells #[x0, x1, x2, x3] 77)).setCells w.heap.size 0 [v0, v1, v2, v3] = w.alloc (.cells #[v0, v1, v2, v3] 77) := by
  unfold World.setCells World.setCells World.setCells World.setCells World.setCells
  rw [World.setCell_alloc_new, World.setCell_alloc_new, World.setCell_alloc_new, World.setCell_alloc_new]
  simp
theorem run_st77_new (w : World) (a b c d : Int) : (st77 (.pointer (some ⟨w.heap.size, 0, none⟩)) (.agg #[.int .i64 a, .int .i64 b, .int .i64 c, .int .i64 d])).run Tryd.prog (w.alloc (.cells #[.int .i64 0, .int .i64 0, .int .i64 0, .int .i64 0] 77)) = .ok () (w.alloc (.cells #[.int .i64 a, .int .i64 b, .int .i64 c, .int .i64 d] 77)) := by
  have h := run_st77 (w := w.alloc (.cells #[.int .i64 0, .int .i64 0, .int .i64 0, .int .i64 0] 77)) (b := w.heap.size) (heap_new _ _) a b c d
  rw [setCells_new4] at h
  exact h
attribute [local go_sem ↓] ld32_is ld37_is ld77_is st77_is
theorem rparts_any {W : World} {q : Qy} {a : Qa} (hq : QIn W q a) (hw : WfN q.nodes) (h0 : 0 ≤ q.wh) (h1 : q.wh < (q.nodes.length : Int)) : Calls Tryd.prog 40 #[qV q a, .int .i64 q.wh] W fun e w' => e = .returned (talS q).val ∧ Below W.heap.size W w' := by
  obtain ⟨w, hww⟩ : ∃ w : Nat, q.wh = w := ⟨q.wh.toNat, by omega⟩
  obtain ⟨nN, hnN⟩ : ∃ n, n = q.nodes.length := ⟨_, rfl⟩
  have hwn : w < nN := by omega
  have hnn := hq.nn
  obtain ⟨b, off, ha⟩ : ∃ b off, a.pN = some ⟨b, off, none⟩ := by
    obtain ⟨b, off, ha, _, _⟩ := hq.n.2 0 (by omega)
    exact ⟨b, off, ha⟩
  obtain ⟨W2, hW2⟩ : ∃ X, X = (W.alloc (.cells #[.slice a.pN nN a.cN, .int .i64 w, .slice a.pB q.by'.length a.cB, .slice a.pS q.sh.length a.cS, .slice a.pO q.ords.length a.cO, .int .i64 q.lim] 32)).alloc (.cells #[.int .i64 0, .int .i64 0, .int .i64 0, .int .i64 0] 77) := ⟨_, rfl⟩
  have hB2 : Below W.heap.size W W2 := by rw [hW2]; exact Below.a2 W _ _
  have hsz : W2.heap.size = W.heap.size + 2 := by rw [hW2]; simp
  have hb0 : W2.heap[W.heap.size]? = some (.cells #[.slice a.pN nN a.cN, .int .i64 w, .slice a.pB q.by'.length a.cB, .slice a.pS q.sh.length a.cS, .slice a.pO q.ords.length a.cO, .int .i64 q.lim] 32 (0, 0)) := by rw [hW2, Below.heap_alloc _ _ _ (by simp)]; exact heap_new _ _
  have hb1 : W2.heap[W.heap.size + 1]? = some (.cells #[.int .i64 0, .int .i64 0, .int .i64 0, .int .i64 0] 77 (0, 0)) := by
    rw [hW2]
    have := heap_new (W.alloc (.cells #[.slice a.pN nN a.cN, .int .i64 w, .slice a.pB q.by'.length a.cB, .slice a.pS q.sh.length a.cS, .slice a.pO q.ords.length a.cO, .int .i64 q.lim] 32)) (.cells #[.int .i64 0, .int .i64 0, .int .i64 0, .int .i64 0] 77)
    rw [World.size_alloc] at this
    exact this
  have hgo : qV q a = .agg #[.slice a.pN nN a.cN, .int .i64 w, .slice a.pB q.by'.length a.cB, .slice a.pS q.sh.length a.cS, .slice a.pO q.ords.length a.cO, .int .i64 q.lim] := by unfold qV; rw [hnN, hww]
  have HC0 : Hid (∀ X, Below W2.heap.size W2 X → X.cell? ⟨W.heap.size, 0, none⟩ = some (.slice a.pN nN a.cN)) := fun X h => by
    rw [h.cell (p := ⟨W.heap.size, 0, none⟩) (by simp; omega), cell_at hb0]
    rfl
  have HL32 : Hid (∀ X, Below W2.heap.size W2 X → (ld32 (.pointer (some ⟨W.heap.size, 0, none⟩))).run Tryd.prog X = .ok (qV q a) X) := fun X h => run_ld32 (fun u v hv => by
    rw [Nat.zero_add, cell_at ((h.block _ (by omega)).trans hb0)]
    unfold qC at hv
    rw [← hnN, hww] at hv
    simpa using hv)
  have HR1 : Hid (∀ X, Below W2.heap.size W2 X → X.heap[W.heap.size + 1]? = some (.cells #[.int .i64 0, .int .i64 0, .int .i64 0, .int .i64 0] 77 (0, 0))) := fun X h => (h.block _ (by omega)).trans hb1
  have HSN : Hid (∀ X (k : Nat) (hk : k < q.nodes.length), Below W2.heap.size W2 X → Calls Tryd.prog 66 #[qV q a, (q.nodes[k]).val] X fun e w' => e = .returned (sngS q.nodes k).val ∧ Below X.heap.size X w') := fun X k hk h => rsingle_any ((hq.below hB2).below h) hw hk
  have HQ := hide (hq.below hB2); have HWF := hide hw; have HN := hide hnN; have HB2 := hide hB2; have HA := hide ha; have HWW := hide hww; have HSZ := hide hsz
  have HGO := hide hgo
  rw [hww, hgo]
  obtain ⟨qq, hqq⟩ : ∃ v, v = qV q a := ⟨_, rfl⟩
  rw [← hqq] at HL32 HSN
  rw [ha] at hW2
  rw [ha] at hgo ⊢
  have HR3 : Hid (Rw k4 W2 W2 (.slice none 0 0) 0 []) := Rw.nil W2
  clear hq hw hnN hB2 hb0 hb1 ha hww hgo h0 h1 hsz hqq
  have sN := run_st77_new
  go_enter Tryd.func40, Tryd.ntmps40
  go_upto_region 1 with fail
  rw [← hW2]
  clear hW2
  go_upto_region 3 with fail
  go_loopw [5, 6] (fun v5 v6 wr => ∃ (k : Nat) (p : Option Addr) (c : Nat), v6 = .int .i64 k ∧ k ≤ w + 1 ∧ v5 = .slice p k c ∧ Hid (Rw k4 W2 wr (.slice p k c) k (talTo q.nodes k))) (fun _ v6 _ => w + 1 - (intOf v6).toNat)
  case atStart => exact ⟨0, _, _, rfl, by omega, rfl, unhide HR3⟩
  case round =>
    obtain ⟨k, pq, cq, rfl, hk, rfl, hrel⟩ := hrel
    by_cases hlt : k ≤ w
    · have hkL : k < q.nodes.length := by rw [← unhide HN]; omega
      have hB := (unhide hrel).bel
      obtain ⟨b', off', e', l1, hrr⟩ := load_nd (unhide HQ).n hkL hB
      rw [unhide HA] at e'
      cases e'
      obtain ⟨x, hx⟩ : ∃ x, x = q.nodes[k] := ⟨_, rfl⟩
      rw [← hx] at l1
      clear hrr
      have l1' : (ld37 (.pointer (some ⟨b, off + k * 6, none⟩))).run Tryd.prog wr = .ok (.agg #[.int .i64 x.op, .int .i64 x.left, .int .i64 x.right, .int .i64 x.field, .int .i64 x.num, .string x.text]) wr := l1
      clear l1
      have c30 := unhide HC0 _ hB
      rw [unhide HA] at c30
      obtain ⟨X1, hX1⟩ : ∃ X, X = wr.alloc (.cells #[.int .i64 x.op, .int .i64 x.left, .int .i64 x.right, .int .i64 x.field, .int .i64 x.num, .string x.text] 37) := ⟨_, rfl⟩
      have hbX : Below wr.heap.size wr X1 := by rw [hX1]; exact Below.a1 wr _
      have hxs : X1.heap.size = wr.heap.size + 1 := by rw [hX1]; simp
      have hxn : X1.heap[wr.heap.size]? = some (.cells #[.int .i64 x.op, .int .i64 x.left, .int .i64 x.right, .int .i64 x.field, .int .i64 x.num, .string x.text] 37 (0, 0)) := by rw [hX1]; exact heap_new _ _
      have HXC : Hid (∀ X, Below X1.heap.size X1 X → X.heap[wr.heap.size]? = some (.cells #[.int .i64 x.op, .int .i64 x.left, .int .i64 x.right, .int .i64 x.field, .int .i64 x.num, .string x.text] 37 (0, 0))) := fun X h => (h.block _ (by omega)).trans hxn
      have HBX := hide hbX; have HXS := hide hxs
      have hkn : (k : Int) ≤ (w : Int) := by omega
      have hkn' : (k : Int) < (nN : Int) := by omega
      have HTK : Hid (talTo q.nodes (k + 1) = talTo q.nodes k ++ [tal1 q.nodes (talTo q.nodes k) k]) := rfl
      have hc1 : Hid (tal1 q.nodes (talTo q.nodes k) k = if x.op = 2 then and4 ((talTo q.nodes k).getD x.left.toNat (0, 0, 0, 0)) ((talTo q.nodes k).getD x.right.toNat (0, 0, 0, 0)) else sngS q.nodes k) := by
        show _ = _; unfold tal1; rw [List.getElem?_eq_getElem hkL, ← hx]
      have HBK := hide (hB.trans (hbX.mono hB.size))
      have d66 := unhide HSN X1 k hkL (unhide HBK)
      rw [← hx] at d66
      have l32 := unhide HL32 X1 (unhide HBK)
      have l37 : (ld37 (.pointer (some ⟨wr.heap.size, 0, none⟩))).run Tryd.prog X1 = .ok x.val X1 := run_ld37 (fun u v hv => by rw [Nat.zero_add, cell_at hxn]; simpa [Nd.vals] using hv)
      obtain ⟨xv, hxv⟩ : ∃ v, v = x.val := ⟨_, rfl⟩
      rw [← hxv] at d66 l37
      have D66 := hide d66
      have HX := hide hx
      have HKL := hide hkL
      obtain ⟨x3, hx3⟩ : ∃ y, y = sngS q.nodes k := ⟨_, rfl⟩
      rw [← hx3] at D66 hc1
      clear hx hB hbX hxs hxn d66 hxv hx3
      go_upto_region 6 with fail
      rw [← hX1]
      clear hX1 l1' c30
      go_upto_region 7 with (first | (go_at_call 66; refine (unhide D66).mono ?_; rintro e v1 ⟨rfl, hw1⟩; unfold T4.val))
      clear l32 l37
      obtain ⟨X3, hX3⟩ : ∃ X, X = v1.alloc (.cells #[.int .i64 x3.1, .int .i64 x3.2.1, .int .i64 x3.2.2.1, .int .i64 x3.2.2.2] 77) := ⟨_, rfl⟩
      rw [← hX3]
      obtain ⟨b2, hb2⟩ : ∃ n, n = v1.heap.size := ⟨_, rfl⟩
      rw [← hb2]
      have h3b : X3.heap[b2]? = some (.cells #[.int .i64 x3.1, .int .i64 x3.2.1, .int .i64 x3.2.2.1, .int .i64 x3.2.2.2] 77 (0, 0)) := by rw [hX3, hb2]; exact heap_new _ _
      have h3B : Below X1.heap.size X1 X3 := by rw [hX3]; exact hw1.alloc hw1.size _
      have h3W : Below wr.heap.size wr X3 := (unhide HBX).trans (h3B.mono (unhide HBX).size)
      have h3S : X3.heap.size = b2 + 1 := by rw [hX3, hb2]; simp
      have h3L : wr.heap.size < b2 := by have := hw1.size; have := unhide HXS; omega
      have HX3 := hide (unhide HXC X3 h3B)
      have e0 : X3.cell? ⟨wr.heap.size, 0, none⟩ = some (.int .i64 x.op) := by rw [cell_at (unhide HX3)]; rfl
      have H3B := hide h3b; have H3W := hide h3W; have H3S := hide h3S; have H3L := hide h3L
      clear hX3 hb2 h3b h3B h3W h3S h3L hw1
      by_cases hop : x.op = 2
      · have hop' : (x.op == 2) = true := beqT hop
        obtain ⟨⟨q1, q2⟩, q3, q4⟩ := unhide HWF k (unhide HKL) (by rw [← unhide HX]; omega)
        rw [← unhide HX] at q1 q2 q3 q4
        obtain ⟨l, hl⟩ : ∃ l : Nat, x.left = l := ⟨x.left.toNat, by omega⟩
        obtain ⟨r, hr⟩ : ∃ r : Nat, x.right = r := ⟨x.right.toNat, by omega⟩
        have hlk : (l : Int) < (k : Int) := by omega
        have hrk : (r : Int) < (k : Int) := by omega
        have hl0 : ¬ (l : Int) < 0 := by omega
        have hr0 : ¬ (r : Int) < 0 := by omega
        obtain ⟨g, hg, _, _, _, _⟩ := (unhide hrel).start (by omega)
        subst hg
        have hlen := tal_len q.nodes k
        obtain ⟨x1, hx1⟩ : ∃ y, y = (talTo q.nodes k).getD l (0, 0, 0, 0) := ⟨_, rfl⟩
        obtain ⟨x2, hx2⟩ : ∃ y, y = (talTo q.nodes k).getD r (0, 0, 0, 0) := ⟨_, rfl⟩
        have HAND : Hid (tal1 q.nodes (talTo q.nodes k) k = and4 x1 x2) := by
          show _ = _
          rw [unhide hc1, if_pos hop, hl, hr, Int.toNat_natCast, Int.toNat_natCast, ← hx1, ← hx2]
        have hld : ∀ (X : World) (i : Nat), Below wr.heap.size wr X → i < k → (ld77 (.pointer (some ⟨g, i * 4, none⟩))).run Tryd.prog X = .ok ((talTo q.nodes k).getD i (0, 0, 0, 0)).val X := fun X i hX hi => by
          have hi' : i < (talTo q.nodes k).length := by omega
          obtain ⟨b9, o9, e9, _, r9⟩ := (((unhide hrel).below hX).lies k4_ok).2 i hi'
          cases e9
          have e10 : (talTo q.nodes k).getD i (0, 0, 0, 0) = (talTo q.nodes k)[i] := by simp [List.getD, hi']
          rw [e10]
          refine run_ld77 (fun j u hu => ?_)
          have := r9 j u hu
          simpa [k4] using this
        have ok1 : Ok4 x1 := by rw [hx1]; exact getD4_ok (tal_ok _ k) _
        have ok2 : Ok4 x2 := by rw [hx2]; exact getD4_ok (tal_ok _ k) _
        obtain ⟨X4, hX4⟩ : ∃ X, X = X3.alloc (.cells #[.int .i64 x1.1, .int .i64 x1.2.1, .int .i64 x1.2.2.1, .int .i64 x1.2.2.2] 77) := ⟨_, rfl⟩
        obtain ⟨X5, hX5⟩ : ∃ X, X = X4.alloc (.cells #[.int .i64 x2.1, .int .i64 x2.2.1, .int .i64 x2.2.2.1, .int .i64 x2.2.2.2] 77) := ⟨_, rfl⟩
        have h4S : X4.heap.size = b2 + 1 + 1 := by rw [hX4]; simp [unhide H3S]
        have h4b : X4.heap[b2 + 1]? = some (.cells #[.int .i64 x1.1, .int .i64 x1.2.1, .int .i64 x1.2.2.1, .int .i64 x1.2.2.2] 77 (0, 0)) := by rw [hX4, ← unhide H3S]; exact heap_new _ _
        have h5b : X5.heap[b2 + 1]? = some (.cells #[.int .i64 x1.1, .int .i64 x1.2.1, .int .i64 x1.2.2.1, .int .i64 x1.2.2.2] 77 (0, 0)) := by rw [hX5, Below.heap_alloc _ _ _ (by omega)]; exact h4b
        have h5c : X5.heap[b2 + 1 + 1]? = some (.cells #[.int .i64 x2.1, .int .i64 x2.2.1, .int .i64 x2.2.2.1, .int .i64 x2.2.2.2] 77 (0, 0)) := by rw [hX5, ← h4S]; exact heap_new _ _
        have h5r : X5.heap[b2]? = some (.cells #[.int .i64 x3.1, .int .i64 x3.2.1, .int .i64 x3.2.2.1, .int .i64 x3.2.2.2] 77 (0, 0)) := by rw [hX5, Below.heap_alloc _ _ _ (by omega), hX4, Below.heap_alloc _ _ _ (by rw [unhide H3S]; omega)]; exact unhide H3B
        have h4W : Below wr.heap.size wr X4 := by rw [hX4]; exact (unhide H3W).alloc (unhide H3W).size _
        have h5W : Below wr.heap.size wr X5 := by rw [hX5]; exact h4W.alloc h4W.size _
        have st9 : (st77 (.pointer (some ⟨b2 + 1, 0, none⟩)) (.agg #[.int .i64 x1.1, .int .i64 x1.2.1, .int .i64 x1.2.2.1, .int .i64 x1.2.2.2])).run Tryd.prog (X3.alloc (.cells #[.int .i64 0, .int .i64 0, .int .i64 0, .int .i64 0] 77)) = .ok () X4 := by rw [hX4, ← unhide H3S]; exact run_st77_new X3 _ _ _ _
        have st10 : (st77 (.pointer (some ⟨b2 + 1 + 1, 0, none⟩)) (.agg #[.int .i64 x2.1, .int .i64 x2.2.1, .int .i64 x2.2.2.1, .int .i64 x2.2.2.2])).run Tryd.prog (X4.alloc (.cells #[.int .i64 0, .int .i64 0, .int .i64 0, .int .i64 0] 77)) = .ok () X5 := by rw [hX5, ← h4S]; exact run_st77_new X4 _ _ _ _
        have d1 := hld X3 l (unhide H3W) (by omega)
        have d2 := hld X4 r h4W (by omega)
        rw [← hx1] at d1
        rw [← hx2] at d2
        unfold T4.val at d1 d2
        have e1 : X3.cell? ⟨wr.heap.size, 1, none⟩ = some (.int .i64 l) := by rw [cell_at (unhide HX3), hl]; rfl
        have e2 : X4.cell? ⟨wr.heap.size, 2, none⟩ = some (.int .i64 r) := by rw [hX4, cell_at ((Below.heap_alloc _ _ _ (by rw [unhide H3S]; have := unhide H3L; omega)).trans (unhide HX3)), hr]; rfl
        obtain ⟨Y, hY⟩ : ∃ Y, Y = X5.drew := ⟨_, rfl⟩
        have hYW : Below wr.heap.size wr Y := by rw [hY]; exact h5W.drew
        have yb : Y.heap[b2 + 1]? = some (.cells #[.int .i64 x1.1, .int .i64 x1.2.1, .int .i64 x1.2.2.1, .int .i64 x1.2.2.2] 77 (0, 0)) := by rw [hY]; exact h5b
        have yc : Y.heap[b2 + 1 + 1]? = some (.cells #[.int .i64 x2.1, .int .i64 x2.2.1, .int .i64 x2.2.2.1, .int .i64 x2.2.2.2] 77 (0, 0)) := by rw [hY]; exact h5c
        have yr : Y.heap[b2]? = some (.cells #[.int .i64 x3.1, .int .i64 x3.2.1, .int .i64 x3.2.2.1, .int .i64 x3.2.2.2] 77 (0, 0)) := by rw [hY]; exact h5r
        have f0 : Y.cell? ⟨b2 + 1, 0, none⟩ = some (.int .i64 x1.1) := by rw [cell_at yb]; rfl
        have g0 : Y.cell? ⟨b2 + 1 + 1, 0, none⟩ = some (.int .i64 x2.1) := by rw [cell_at yc]; rfl
        obtain ⟨s0, hs0⟩ : ∃ s, s = x1.1 + x2.1 := ⟨_, rfl⟩
        have u0 : IntKind.i64.wrap (x1.1 + x2.1) = s0 := by rw [IntKind.wrap_i64, hs0]; unfold Ok4 at ok1 ok2; omega
        have f1 : Y.cell? ⟨b2 + 1, 1, none⟩ = some (.int .i64 x1.2.1) := by rw [cell_at yb]; rfl
        have g1 : Y.cell? ⟨b2 + 1 + 1, 1, none⟩ = some (.int .i64 x2.2.1) := by rw [cell_at yc]; rfl
        obtain ⟨s1, hs1⟩ : ∃ s, s = x1.2.1 + x2.2.1 := ⟨_, rfl⟩
        have u1 : IntKind.i64.wrap (x1.2.1 + x2.2.1) = s1 := by rw [IntKind.wrap_i64, hs1]; unfold Ok4 at ok1 ok2; omega
        have f2 : Y.cell? ⟨b2 + 1, 2, none⟩ = some (.int .i64 x1.2.2.1) := by rw [cell_at yb]; rfl
        have g2 : Y.cell? ⟨b2 + 1 + 1, 2, none⟩ = some (.int .i64 x2.2.2.1) := by rw [cell_at yc]; rfl
        obtain ⟨s2, hs2⟩ : ∃ s, s = x1.2.2.1 + x2.2.2.1 := ⟨_, rfl⟩
        have u2 : IntKind.i64.wrap (x1.2.2.1 + x2.2.2.1) = s2 := by rw [IntKind.wrap_i64, hs2]; unfold Ok4 at ok1 ok2; omega
        have f3 : Y.cell? ⟨b2 + 1, 3, none⟩ = some (.int .i64 x1.2.2.2) := by rw [cell_at yb]; rfl
        have g3 : Y.cell? ⟨b2 + 1 + 1, 3, none⟩ = some (.int .i64 x2.2.2.2) := by rw [cell_at yc]; rfl
        obtain ⟨s3, hs3⟩ : ∃ s, s = x1.2.2.2 + x2.2.2.2 := ⟨_, rfl⟩
        have u3 : IntKind.i64.wrap (x1.2.2.2 + x2.2.2.2) = s3 := by rw [IntKind.wrap_i64, hs3]; unfold Ok4 at ok1 ok2; omega
        have HA4 : Hid (and4 x1 x2 = (twoI s0, twoI s1, twoI s2, twoI s3)) := by show _ = _; unfold and4; rw [hs0, hs1, hs2, hs3]
        have st := run_st77 yr (twoI s0) (twoI s1) (twoI s2) (twoI s3)
        have sy := heap_setCells4 (v0 := .int .i64 (twoI s0)) (v1 := .int .i64 (twoI s1)) (v2 := .int .i64 (twoI s2)) (v3 := .int .i64 (twoI s3)) yr
        obtain ⟨X6, hX6⟩ : ∃ Y', Y' = Y.setCells b2 0 [.int .i64 (twoI s0), .int .i64 (twoI s1), .int .i64 (twoI s2), .int .i64 (twoI s3)] := ⟨_, rfl⟩
        rw [← hX6] at st sy
        have HX6 : Hid (Below wr.heap.size wr X6) := by rw [hX6]; exact below_setCells (by have := unhide H3L; omega) _ _ _ _ hYW
        have l6 : (ld77 (.pointer (some ⟨b2, 0, none⟩))).run Tryd.prog X6 = .ok (.agg #[.int .i64 (twoI s0), .int .i64 (twoI s1), .int .i64 (twoI s2), .int .i64 (twoI s3)]) X6 := run_ld77 (x := (twoI s0, twoI s1, twoI s2, twoI s3)) (range77 (t := 77) sy)
        have hsz3 := unhide H3S
        have HRW := hide ((unhide hrel).below (unhide HX6))
        clear hld hx1 hx2 ok1 ok2 hl hr q1 q2 q3 q4 hop hlen hs0 hs1 hs2 hs3 hYW yb yc yr sy hX6 h4b h5b h5c h5r h4W h5W
        clear sN hX4 hX5
        go_upto_region 9 with fail
        go_upto_region 10 with fail
        clear hsz3 h4S d1 d2 e0 e1 e2 st9 st10
        refine wp_region_last (n := 25) (S := fun X => X = Y) (by kernel_rfl) hY.symm (fun hHeld => ?_)
        rw [← hY] at hHeld ⊢
        clear hY
        refine tkW 0 ?_; refine tkW 2 ?_; refine tkW 6 ?_; refine tkW 8 ?_; refine tkW 12 ?_; refine tkW 14 ?_; refine tkW 18 ?_; refine tkW 20 ?_
        refine tkS 1 ?_; refine tkS 3 ?_; refine tkS 7 ?_; refine tkS 9 ?_; refine tkS 13 ?_; refine tkS 15 ?_; refine tkS 19 ?_; refine tkS 21 ?_
        refine tkW 4 ?_; refine tkW 10 ?_; refine tkW 16 ?_; refine tkW 22 ?_
        refine wpAnyL_one (i := 5) (by kernel_rfl) rfl (fun KK hK => ?_)
        go_simp
        refine (two_any s0 _).mono ?_
        rintro e v1 ⟨rfl, rfl⟩
        go_simp
        refine hK.out _ _ rfl (fun hHeld => ?_)
        clear hK KK
        refine wpAnyL_one (i := 11) (by kernel_rfl) rfl (fun KK hK => ?_)
        go_simp
        refine (two_any s1 _).mono ?_
        rintro e v1 ⟨rfl, rfl⟩
        go_simp
        refine hK.out _ _ rfl (fun hHeld => ?_)
        clear hK KK
        refine wpAnyL_one (i := 17) (by kernel_rfl) rfl (fun KK hK => ?_)
        go_simp
        refine (two_any s2 _).mono ?_
        rintro e v1 ⟨rfl, rfl⟩
        go_simp
        refine hK.out _ _ rfl (fun hHeld => ?_)
        clear hK KK
        refine wpAnyL_one (i := 23) (by kernel_rfl) rfl (fun KK hK => ?_)
        go_simp
        refine (two_any s3 _).mono ?_
        rintro e v1 ⟨rfl, rfl⟩
        go_simp
        refine hK.out _ _ rfl (fun hHeld => ?_)
        clear hK KK
        refine tkW 24 ?_
        clear hHeld
        refine wpAnyL_past (i := 25) (by kernel_rfl) rfl (by kernel_rfl) (fun KK hK => ?_)
        go_simp
        refine hK.out _ _ ?_
        clear hK KK
        refine wpAnyL_done (by kernel_rfl) ?_
        have HAN2 : Hid (tal1 q.nodes (talTo q.nodes k) k = (twoI s0, twoI s1, twoI s2, twoI s3)) := (unhide HAND).trans (unhide HA4)
        obtain ⟨p8, c8, w8, r8, o8⟩ := (unhide HRW).put k4_ok (twoI s0, twoI s1, twoI s2, twoI s3) #[.int .i64 (twoI s0), .int .i64 (twoI s1), .int .i64 (twoI s2), .int .i64 (twoI s3)] rfl 107 (by omega) (nat_bound (c := 2600000000001) (by omega) (by decide))
        have r8 : (Builtin.append_ #[107, 107] 107 #[.slice (some ⟨g, 0, none⟩) k cq, .slice (some ⟨X6.heap.size, 0, none⟩) 1 1]).run Tryd.prog (X6.alloc (.cells #[.int .i64 (twoI s0), .int .i64 (twoI s1), .int .i64 (twoI s2), .int .i64 (twoI s3)] 77)) = .ok (.slice p8 (k + 1) c8) w8 := r8
        have HR8 := hide r8; have HO8 := hide o8
        clear r8 o8
        go_wp2_with (at_builtin; refine wpList_append_run rfl _ _ 107 rfl _ _ _ _ rfl rfl (unhide HR8) ?_)
        refine ⟨⟨k + 1, p8, c8, by go_num, by omega, rfl, ?_⟩, by simp [intOf]; omega⟩
        show Rw _ _ _ _ _ _
        rw [unhide HTK, unhide HAN2]
        exact unhide HO8
      · have hop' := beqF hop
        have HPT : Hid (tal1 q.nodes (talTo q.nodes k) k = x3) := by show _ = _; rw [unhide hc1, if_neg hop]
        have l6 : (ld77 (.pointer (some ⟨b2, 0, none⟩))).run Tryd.prog X3 = .ok (.agg #[.int .i64 x3.1, .int .i64 x3.2.1, .int .i64 x3.2.2.1, .int .i64 x3.2.2.2]) X3 := run_ld77 (x := x3) (range77 (unhide H3B))
        have HRW := hide ((unhide hrel).below (unhide H3W))
        clear hop
        obtain ⟨p8, c8, w8, r8, o8⟩ := (unhide HRW).put k4_ok x3 #[.int .i64 x3.1, .int .i64 x3.2.1, .int .i64 x3.2.2.1, .int .i64 x3.2.2.2] rfl 107 (by omega) (nat_bound (c := 2600000000001) (by omega) (by decide))
        have r8 : (Builtin.append_ #[107, 107] 107 #[.slice pq k cq, .slice (some ⟨X3.heap.size, 0, none⟩) 1 1]).run Tryd.prog (X3.alloc (.cells #[.int .i64 x3.1, .int .i64 x3.2.1, .int .i64 x3.2.2.1, .int .i64 x3.2.2.2] 77)) = .ok (.slice p8 (k + 1) c8) w8 := r8
        have HR8 := hide r8; have HO8 := hide o8
        clear r8 o8
        go_wp2_with (at_builtin; refine wpList_append_run rfl _ _ 107 rfl _ _ _ _ rfl rfl (unhide HR8) ?_)
        refine ⟨⟨k + 1, p8, c8, by go_num, by omega, rfl, ?_⟩, by simp [intOf]; omega⟩
        show Rw _ _ _ _ _ _
        rw [unhide HTK, unhide HPT]
        exact unhide HO8
    · have hkw : k = w + 1 := by omega
      subst hkw
      obtain ⟨g, hg, _, _, _, _⟩ := (unhide hrel).start (by omega)
      subst hg
      have hr1 := unhide HR1 _ (unhide hrel).bel
      have hlen := tal_len q.nodes (w + 1)
      obtain ⟨b9, o9, e9, _, r9⟩ := ((unhide hrel).lies k4_ok).2 w (by omega)
      cases e9
      obtain ⟨x3, hx3⟩ : ∃ y, y = (talTo q.nodes (w + 1))[w]'(by omega) := ⟨_, rfl⟩
      rw [← hx3] at r9
      have hl3 : (ld77 (.pointer (some ⟨g, w * 4, none⟩))).run Tryd.prog wr = .ok (.agg #[.int .i64 x3.1, .int .i64 x3.2.1, .int .i64 x3.2.2.1, .int .i64 x3.2.2.2]) wr := run_ld77 (x := x3) (fun j u hu => by have := r9 j u hu; simpa [k4] using this)
      have HCND : Hid (talS q = x3) := by
        show _ = _
        unfold talS
        rw [unhide HWW, Int.toNat_natCast, hx3]
        simp [List.getD, show w < (talTo q.nodes (w + 1)).length by omega]
      have hs := run_st77 hr1 x3.1 x3.2.1 x3.2.2.1 x3.2.2.2
      have hy := heap_setCells4 (v0 := .int .i64 x3.1) (v1 := .int .i64 x3.2.1) (v2 := .int .i64 x3.2.2.1) (v3 := .int .i64 x3.2.2.2) hr1
      obtain ⟨Y, hY⟩ : ∃ Y, Y = wr.setCells (W.heap.size + 1) 0 [.int .i64 x3.1, .int .i64 x3.2.1, .int .i64 x3.2.2.1, .int .i64 x3.2.2.2] := ⟨_, rfl⟩
      rw [← hY] at hs hy
      have y0 : Y.cell? ⟨W.heap.size + 1, 0, none⟩ = some (.int .i64 x3.1) := by rw [cell_at hy]; rfl
      have y1 : Y.cell? ⟨W.heap.size + 1, 1, none⟩ = some (.int .i64 x3.2.1) := by rw [cell_at hy]; rfl
      have y2 : Y.cell? ⟨W.heap.size + 1, 2, none⟩ = some (.int .i64 x3.2.2.1) := by rw [cell_at hy]; rfl
      have y3 : Y.cell? ⟨W.heap.size + 1, 3, none⟩ = some (.int .i64 x3.2.2.2) := by rw [cell_at hy]; rfl
      have HBY : Hid (Below W.heap.size W Y) := by rw [hY]; exact below_setCells (by omega) _ _ _ _ ((unhide HB2).trans ((unhide hrel).bel.mono (unhide HB2).size))
      have hww1 : (w : Int) < (w : Int) + 1 := by omega
      have hww2 : ¬ (w : Int) + 1 ≤ (w : Int) := by omega
      clear hy hY hx3 r9 hr1 hlen
      go_wp2_with fail
      exact bodyPost_ret (v := .agg #[.int .i64 x3.1, .int .i64 x3.2.1, .int .i64 x3.2.2.1, .int .i64 x3.2.2.2]) (by simp [results, Tryd.results40, go_sem, *]) rfl ⟨by rw [unhide HCND]; rfl, unhide HBY⟩
end Go.Proofs.YtcelllihidkphaaDoor
