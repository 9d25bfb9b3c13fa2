/- typing: conditionOf 32. -/
import Derived.Test.YtcelllihidkphaaDoorTyY
import Derived.Test.YtcelllihidkphaaDoorMoA
namespace Go.Proofs.YtcelllihidkphaaDoor
open Go Go.Shelf Go.ChangeShapes Go.WideShapes Go.ChangeAt Go.RowKit Go.Maps
set_option linter.unusedVariables false
set_option maxRecDepth 100000
set_option maxHeartbeats 8000000
/-- the count of a node's parts, by those ahead of it -/
def cnd1 (L : List Nd) (C : List P3) (k : Nat) : P3 := match L[k]? with
  | none => (0, 0, 0)
  | some x => if x.op = 2 then andS (C.getD x.left.toNat (0, 0, 0)) (C.getD x.right.toNat (0, 0, 0)) else partS L k
def cndTo (L : List Nd) : Nat → List P3
  | 0 => []
  | k + 1 => cndTo L k ++ [cnd1 L (cndTo L k) k]
theorem cnd_len (L : List Nd) : ∀ k, (cndTo L k).length = k
  | 0 => rfl
  | k + 1 => by unfold cndTo; rw [List.length_append, cnd_len L k]; rfl
theorem ok3_zero : Ok3 (0, 0, 0) := by unfold Ok3; simp
theorem getD_ok {C : List P3} (h : ∀ x ∈ C, Ok3 x) (i : Nat) : Ok3 (C.getD i (0, 0, 0)) := by
  rw [List.getD_eq_getElem?_getD]
  cases hi : C[i]? with
  | none => exact ok3_zero
  | some x => exact h x (List.mem_of_getElem? hi)
theorem cnd_ok (L : List Nd) : ∀ k, ∀ x ∈ cndTo L k, Ok3 x
  | 0, x, hx => by cases hx
  | k + 1, x, hx => by
    unfold cndTo at hx
    rcases List.mem_append.1 hx with h | h
    · exact cnd_ok L k x h
    · rw [List.mem_singleton] at h
      subst h
      unfold cnd1
      cases L[k]? with
      | none => exact ok3_zero
      | some y =>
        simp only
        split
        · exact and_ok (getD_ok (cnd_ok L k) _) (getD_ok (cnd_ok L k) _)
        · exact part_ok L k
/-- the condition of a query: how many parts of each sort it has -/
def cndS (q : Qy) : P3 := (cndTo q.nodes (q.wh.toNat + 1)).getD q.wh.toNat (0, 0, 0)
def ld69 (x : Value) : Sem Value := Instr.loadAt 69 x
theorem ld69_is (x : Value) : Instr.loadAt 69 x = ld69 x := rfl
theorem run_ld69 {w : World} {b o : Nat} {x : P3} (h : w.rangeAt b o (kP.enc x)) : (ld69 (.pointer (some ⟨b, o, none⟩))).run Tryd.prog w = .ok x.val w :=
  run_loadAt_mid (P := Tryd.prog) w b o 69 (kP.enc x) _ h Tryd.underlying69 rfl size69
section
variable {P : Program} {ops : Array Oper} {Q : Exit → Act → World → Prop} {md : Region.Mode} {S : World → Prop} {n : Nat}
/-- one of two that may come up next -/
theorem wpAnyL_two {i j : Nat} {o o' : Oper} {fuel : Nat} {listed : Array Bool} {a : Act} {w : World} (hr : Region.ready md ops listed = [i, j]) (ho : ops[i]? = some o) (ho' : ops[j]? = some o')
    (h : ∀ K' : Act → World → Prop, Shut (∀ a w, S w → (S w → wpAnyL P md ops Q S n fuel (listed.setIfInBounds i true) a w) → K' a w) → if Region.wanted o (yielded ops a.tmps) = true then Oper.wp P o a w K' Q else K' (a.put o.dst undef) w)
    (h' : ∀ K' : Act → World → Prop, Shut (∀ a w, S w → (S w → wpAnyL P md ops Q S n fuel (listed.setIfInBounds j true) a w) → K' a w) → if Region.wanted o' (yielded ops a.tmps) = true then Oper.wp P o' a w K' Q else K' (a.put o'.dst undef) w) : wpAnyL P md ops Q S n (fuel + 1) listed a w := by
  refine ⟨fun h0 => (by rw [hr] at h0; cases h0), fun k hk => ?_⟩
  rw [hr] at hk
  rcases List.mem_cons.1 hk with rfl | hk
  · exact wpOp_step ho (fun K' hK => h K' (fun a w hS hW => hK a w ⟨fun _ => hS, hW hS⟩))
  · rw [List.mem_singleton] at hk
    subst hk
    exact wpOp_step ho' (fun K' hK => h' K' (fun a w hS hW => hK a w ⟨fun _ => hS, hW hS⟩))
end
attribute [local go_sem ↓] ld37_is ld69_is st69_is
theorem cond_any {W : World} {q : Qy} {a : Qa} (hq : QIn W q a) (hw : WfN q.nodes) (h0 : 0 ≤ q.wh) (h1 : q.wh < (q.nodes.length : Int)) (hcap : q.nodes.length ≤ a.cN) : Calls Tryd.prog 32 #[qV q a] W fun e w' => e = .returned (cndS q).val ∧ Below W.heap.size W w' := by
  obtain ⟨w, hww⟩ : ∃ w : Nat, q.wh = w := ⟨q.wh.toNat, by omega⟩
  obtain ⟨nN, hnN⟩ : ∃ n, n = q.nodes.length := ⟨_, rfl⟩
  have hwn : w < nN := by omega
  have hnn := hq.nn
  obtain ⟨b, off, ha⟩ : ∃ b off, a.pN = some ⟨b, off, none⟩ := by
    obtain ⟨b, off, ha, _, _⟩ := hq.n.2 0 (by omega)
    exact ⟨b, off, ha⟩
  obtain ⟨W2, hW2⟩ : ∃ X, X = (W.alloc (.cells #[.slice a.pN nN a.cN, .int .i64 w, .slice a.pB q.by'.length a.cB, .slice a.pS q.sh.length a.cS, .slice a.pO q.ords.length a.cO, .int .i64 q.lim] 32)).alloc (.cells #[.int .i64 0, .int .i64 0, .int .i64 0] 69) := ⟨_, rfl⟩
  have hB2 : Below W.heap.size W W2 := by rw [hW2]; exact Below.a2 W _ _
  have hsz : W2.heap.size = W.heap.size + 2 := by rw [hW2]; simp
  have hb0 : W2.heap[W.heap.size]? = some (.cells #[.slice a.pN nN a.cN, .int .i64 w, .slice a.pB q.by'.length a.cB, .slice a.pS q.sh.length a.cS, .slice a.pO q.ords.length a.cO, .int .i64 q.lim] 32 (0, 0)) := by rw [hW2, Below.heap_alloc _ _ _ (by simp)]; exact heap_new _ _
  have hb1 : W2.heap[W.heap.size + 1]? = some (.cells #[.int .i64 0, .int .i64 0, .int .i64 0] 69 (0, 0)) := by
    rw [hW2]
    have := heap_new (W.alloc (.cells #[.slice a.pN nN a.cN, .int .i64 w, .slice a.pB q.by'.length a.cB, .slice a.pS q.sh.length a.cS, .slice a.pO q.ords.length a.cO, .int .i64 q.lim] 32)) (.cells #[.int .i64 0, .int .i64 0, .int .i64 0] 69)
    rw [World.size_alloc] at this
    exact this
  have HC0 : Hid (∀ X, Below W2.heap.size W2 X → X.cell? ⟨W.heap.size, 0, none⟩ = some (.slice a.pN nN a.cN) ∧ X.cell? ⟨W.heap.size, 1, none⟩ = some (.int .i64 w)) := fun X h => by
    rw [h.cell (p := ⟨W.heap.size, 0, none⟩) (by simp; omega), h.cell (p := ⟨W.heap.size, 1, none⟩) (by simp; omega), cell_at hb0, cell_at hb0]
    exact ⟨rfl, rfl⟩
  have HR1 : Hid (∀ X, Below W2.heap.size W2 X → X.heap[W.heap.size + 1]? = some (.cells #[.int .i64 0, .int .i64 0, .int .i64 0] 69 (0, 0))) := fun X h => (h.block _ (by omega)).trans hb1
  obtain ⟨W3, hmk, hr3⟩ := Rw.made kP_ok W2 (w + 1) (by show 24 * (w + 1) ≤ _; omega) (by omega)
  have hmk : (Instr.makeSlice 98 (.int .i64 0) (.int .i64 ((w : Int) + 1))).run Tryd.prog W2 = .ok (.slice (some ⟨W2.heap.size, 0, none⟩) 0 (w + 1)) W3 := by
    have h1 : ((w : Int) + 1) = ((w + 1 : Nat) : Int) := by omega
    rw [h1]; exact hmk
  have HR3 := hide hr3
  rw [hsz] at HR3
  have hgo : qV q a = .agg #[.slice a.pN nN a.cN, .int .i64 w, .slice a.pB q.by'.length a.cB, .slice a.pS q.sh.length a.cS, .slice a.pO q.ords.length a.cO, .int .i64 q.lim] := by unfold qV; rw [hnN, hww]
  have HQ := hide (hq.below hB2); have HWF := hide hw; have HN := hide hnN; have HB2 := hide hB2; have HA := hide ha; have HWW := hide hww
  rw [hgo, ha]
  rw [ha] at hW2
  have c20 := (unhide HC0 _ (Below.refl _ _))
  rw [ha] at c20
  obtain ⟨c20, c21⟩ := c20
  have c30 := (unhide HC0 _ hr3.bel)
  rw [ha] at c30
  obtain ⟨c30, c31⟩ := c30
  have hwr : IntKind.i64.wrap ((w : Int) + 1) = (w : Int) + 1 := by rw [IntKind.wrap_i64]; omega
  have k1 : (0 : Int) ≤ (w : Int) + 1 := by omega
  have k2 : (w : Int) + 1 ≤ (a.cN : Int) := by omega
  have k3 : ¬ (a.cN : Int) < (w : Int) + 1 := by omega
  clear hq hw hnN hB2 hb0 hb1 hr3 ha hww hgo h0 h1 hcap
  go_enter Tryd.func32, Tryd.ntmps32
  go_upto_region 1 with fail
  rw [← hW2]
  clear hW2
  go_upto_region 2 with fail
  go_wp2_with fail
  go_loopw [3, 17] (fun v3 v17 wr => ∃ (k : Nat) (p : Option Addr) (c : Nat), v17 = .int .i64 k ∧ k ≤ w + 1 ∧ v3 = .slice p k c ∧ Hid (Rw kP W2 wr (.slice p k c) k (cndTo q.nodes k))) (fun _ v17 _ => w + 1 - (intOf v17).toNat)
  case atStart => exact ⟨0, _, _, rfl, by omega, rfl, unhide HR3⟩
  case round =>
    obtain ⟨k, pq, cq, rfl, hk, rfl, hrel⟩ := hrel
    by_cases hlt : k < w + 1
    · have hkL : k < q.nodes.length := by rw [← unhide HN]; omega
      have hB := (unhide hrel).bel
      obtain ⟨b', off', e', l1, hrr⟩ := load_nd (unhide HQ).n hkL hB
      rw [unhide HA] at e'
      cases e'
      obtain ⟨x, hx⟩ : ∃ x, x = q.nodes[k] := ⟨_, rfl⟩
      rw [← hx] at l1
      clear hrr
      have l1' : (ld37 (.pointer (some ⟨b, off + k * 6, none⟩))).run Tryd.prog wr = .ok (.agg #[.int .i64 x.op, .int .i64 x.left, .int .i64 x.right, .int .i64 x.field, .int .i64 x.num, .string x.text]) wr := l1
      clear l1
      obtain ⟨X1, hX1⟩ : ∃ X, X = wr.alloc (.cells #[.int .i64 x.op, .int .i64 x.left, .int .i64 x.right, .int .i64 x.field, .int .i64 x.num, .string x.text] 37) := ⟨_, rfl⟩
      have hbX : Below wr.heap.size wr X1 := by rw [hX1]; exact Below.a1 wr _
      have HR1 := hide ((unhide hrel).below hbX)
      have hxc : ∀ i, X1.cell? ⟨wr.heap.size, i, none⟩ = (#[.int .i64 x.op, .int .i64 x.left, .int .i64 x.right, .int .i64 x.field, .int .i64 x.num, .string x.text] : Array Value)[i]? := fun i => by rw [hX1, World.cell?_alloc_mark]
      have e0 : X1.cell? ⟨wr.heap.size, 0, none⟩ = some (.int .i64 x.op) := hxc 0
      have HXC := hide hxc
      have hkn : (k : Int) < (w : Int) + 1 := by omega
      have HTK : Hid (cndTo q.nodes (k + 1) = cndTo q.nodes k ++ [cnd1 q.nodes (cndTo q.nodes k) k]) := rfl
      have hc1 : Hid (cnd1 q.nodes (cndTo q.nodes k) k = if x.op = 2 then andS ((cndTo q.nodes k).getD x.left.toNat (0, 0, 0)) ((cndTo q.nodes k).getD x.right.toNat (0, 0, 0)) else partS q.nodes k) := by
        show _ = _; unfold cnd1; rw [List.getElem?_eq_getElem hkL, ← hx]
      have HX := hide hx
      have HKL := hide hkL
      clear hx hB hbX hxc
      go_upto_region 5 with fail
      rw [← hX1]
      clear hX1 l1'
      by_cases hop : x.op = 2
      · have hop' : (x.op == 2) = true := beqT hop
        obtain ⟨⟨q1, q2⟩, q3, q4⟩ := unhide HWF k (unhide HKL) (by rw [← unhide HX]; omega)
        rw [← unhide HX] at q1 q2 q3 q4
        obtain ⟨l, hl⟩ : ∃ l : Nat, x.left = l := ⟨x.left.toNat, by omega⟩
        obtain ⟨r, hr⟩ : ∃ r : Nat, x.right = r := ⟨x.right.toNat, by omega⟩
        have hlk : (l : Int) < (k : Int) := by omega
        have hrk : (r : Int) < (k : Int) := by omega
        obtain ⟨g, hg, _, _, _, _⟩ := (unhide HR1).start (by omega)
        subst hg
        have hlen := cnd_len q.nodes k
        obtain ⟨x1, hx1⟩ : ∃ y, y = (cndTo q.nodes k).getD l (0, 0, 0) := ⟨_, rfl⟩
        obtain ⟨x2, hx2⟩ : ∃ y, y = (cndTo q.nodes k).getD r (0, 0, 0) := ⟨_, rfl⟩
        have HAND : Hid (cnd1 q.nodes (cndTo q.nodes k) k = andS x1 x2) := by
          show _ = _
          rw [unhide hc1, if_pos hop, hl, hr, Int.toNat_natCast, Int.toNat_natCast, ← hx1, ← hx2]
        have hld : ∀ (i : Nat), i < k → (ld69 (.pointer (some ⟨g, i * 3, none⟩))).run Tryd.prog X1.drew = .ok ((cndTo q.nodes k).getD i (0, 0, 0)).val X1.drew := fun i hi => by
          have hi' : i < (cndTo q.nodes k).length := by omega
          obtain ⟨b9, o9, e9, _, r9⟩ := (((unhide HR1).below (Below.refl _ _).drew).lies kP_ok).2 i hi'
          cases e9
          have e10 : (cndTo q.nodes k).getD i (0, 0, 0) = (cndTo q.nodes k)[i] := by simp [List.getD, hi']
          rw [e10]
          refine run_ld69 (fun j u hu => ?_)
          have := r9 j u hu
          simpa [kP] using this
        have d1 := hld l (by omega)
        have d2 := hld r (by omega)
        rw [← hx1] at d1
        rw [← hx2] at d2
        have ok1 : Ok3 x1 := by rw [hx1]; exact getD_ok (cnd_ok _ k) _
        have ok2 : Ok3 x2 := by rw [hx2]; exact getD_ok (cnd_ok _ k) _
        have dA := hide (and_any ok1 ok2 X1.drew)
        have e1 : X1.drew.cell? ⟨wr.heap.size, 1, none⟩ = some (.int .i64 l) := by have := unhide HXC 1; rw [hl] at this; exact this
        have e2 : X1.drew.cell? ⟨wr.heap.size, 2, none⟩ = some (.int .i64 r) := by have := unhide HXC 2; rw [hr] at this; exact this
        obtain ⟨y1, hy1⟩ : ∃ v, v = x1.val := ⟨_, rfl⟩
        obtain ⟨y2, hy2⟩ : ∃ v, v = x2.val := ⟨_, rfl⟩
        rw [← hy1] at d1 dA
        rw [← hy2] at d2 dA
        clear hld hx1 hx2 ok1 ok2 hl hr q1 q2 q3 q4 hop hlen hy1 hy2
        go_upto_region 6 with fail
        refine wp_region_last (n := 11) (S := fun X => X = X1.drew) (by kernel_rfl) rfl (fun hHeld => ?_)
        refine tkW 0 ?_; refine tkW 1 ?_; refine tkW 2 ?_; refine tkW 6 ?_; refine tkW 7 ?_
        refine wpAnyL_two (i := 3) (j := 8) (by kernel_rfl) rfl rfl (fun KK hK => ?_) (fun KK hK => ?_)
        · go_simp
          refine hK.out _ _ rfl (fun hHeld => ?_)
          clear hK KK
          refine tkW 4 ?_
          refine tkS 5 ?_
          refine wpAnyL_one (i := 8) (by kernel_rfl) rfl (fun KK hK => ?_)
          go_simp
          refine hK.out _ _ rfl (fun hHeld => ?_)
          clear hK KK
          refine tkW 9 ?_
          refine tkS 10 ?_
          clear hHeld
          refine wpAnyL_past (i := 11) (by kernel_rfl) rfl (by kernel_rfl) (fun KK hK => ?_)
          go_simp
          go_wp2_with (first | (go_at_call 57; refine (unhide dA).mono ?_; rintro e v1 ⟨rfl, hw⟩))
          obtain ⟨p8, c8, w8, r8, o8⟩ := (((unhide HR1).below (Below.refl _ _).drew).below hw).put kP_ok (andS x1 x2) #[.int .i64 (andS x1 x2).1, .int .i64 (andS x1 x2).2.1, .int .i64 (andS x1 x2).2.2] rfl 98 (by omega) (nat_bound (c := 2600000000001) (by omega) (by decide))
          have r8 : (Builtin.append_ #[98, 98] 98 #[.slice (some ⟨g, 0, none⟩) k cq, .slice (some ⟨v1.heap.size, 0, none⟩) 1 1]).run Tryd.prog (v1.alloc (.cells #[.int .i64 (andS x1 x2).1, .int .i64 (andS x1 x2).2.1, .int .i64 (andS x1 x2).2.2] 69)) = .ok (.slice p8 (k + 1) c8) w8 := r8
          have HR8 := hide r8; have HO8 := hide o8
          clear hw r8 o8
          refine hK.out _ _ ?_
          clear hK KK
          unfold P3.val
          refine wpAnyL_past (i := 12) (by kernel_rfl) rfl (by kernel_rfl) (fun KK hK => ?_)
          go_simp
          refine hK.out _ _ ?_
          clear hK KK
          refine wpAnyL_past (i := 13) (by kernel_rfl) rfl (by kernel_rfl) (fun KK hK => ?_)
          refine step_append_run _ (by rfl) _ _ _ (by rfl) _ _ _ _ (by rfl) (by rfl) (unhide HR8) ?_
          simp only [Act.put, List.setIfInBounds_toArray]
          refine hK.out _ _ ?_
          clear hK KK
          refine wpAnyL_past (i := 14) (by kernel_rfl) rfl (by kernel_rfl) (fun KK hK => ?_)
          go_simp
          refine hK.out _ _ ?_
          clear hK KK
          refine wpAnyL_done (by kernel_rfl) ?_
          go_wp2_with fail
          refine ⟨⟨k + 1, p8, c8, by go_num, by omega, rfl, ?_⟩, by simp [intOf]; omega⟩
          show Rw _ _ _ _ _ _
          rw [unhide HTK, unhide HAND]
          exact unhide HO8
        · go_simp
          refine hK.out _ _ rfl (fun hHeld => ?_)
          clear hK KK
          refine tkW 9 ?_
          refine tkS 10 ?_
          refine wpAnyL_one (i := 3) (by kernel_rfl) rfl (fun KK hK => ?_)
          go_simp
          refine hK.out _ _ rfl (fun hHeld => ?_)
          clear hK KK
          refine tkW 4 ?_
          refine tkS 5 ?_
          clear hHeld
          refine wpAnyL_past (i := 11) (by kernel_rfl) rfl (by kernel_rfl) (fun KK hK => ?_)
          go_simp
          go_wp2_with (first | (go_at_call 57; refine (unhide dA).mono ?_; rintro e v1 ⟨rfl, hw⟩))
          obtain ⟨p8, c8, w8, r8, o8⟩ := (((unhide HR1).below (Below.refl _ _).drew).below hw).put kP_ok (andS x1 x2) #[.int .i64 (andS x1 x2).1, .int .i64 (andS x1 x2).2.1, .int .i64 (andS x1 x2).2.2] rfl 98 (by omega) (nat_bound (c := 2600000000001) (by omega) (by decide))
          have r8 : (Builtin.append_ #[98, 98] 98 #[.slice (some ⟨g, 0, none⟩) k cq, .slice (some ⟨v1.heap.size, 0, none⟩) 1 1]).run Tryd.prog (v1.alloc (.cells #[.int .i64 (andS x1 x2).1, .int .i64 (andS x1 x2).2.1, .int .i64 (andS x1 x2).2.2] 69)) = .ok (.slice p8 (k + 1) c8) w8 := r8
          have HR8 := hide r8; have HO8 := hide o8
          clear hw r8 o8
          refine hK.out _ _ ?_
          clear hK KK
          unfold P3.val
          refine wpAnyL_past (i := 12) (by kernel_rfl) rfl (by kernel_rfl) (fun KK hK => ?_)
          go_simp
          refine hK.out _ _ ?_
          clear hK KK
          refine wpAnyL_past (i := 13) (by kernel_rfl) rfl (by kernel_rfl) (fun KK hK => ?_)
          refine step_append_run _ (by rfl) _ _ _ (by rfl) _ _ _ _ (by rfl) (by rfl) (unhide HR8) ?_
          simp only [Act.put, List.setIfInBounds_toArray]
          refine hK.out _ _ ?_
          clear hK KK
          refine wpAnyL_past (i := 14) (by kernel_rfl) rfl (by kernel_rfl) (fun KK hK => ?_)
          go_simp
          refine hK.out _ _ ?_
          clear hK KK
          refine wpAnyL_done (by kernel_rfl) ?_
          go_wp2_with fail
          refine ⟨⟨k + 1, p8, c8, by go_num, by omega, rfl, ?_⟩, by simp [intOf]; omega⟩
          show Rw _ _ _ _ _ _
          rw [unhide HTK, unhide HAND]
          exact unhide HO8
      · have hop' := beqF hop
        have dP := hide (partOf_any (W := X1) (c := a.cN) (unhide HN).symm ((unhide HQ).n.below (unhide HR1).bel) (unhide HWF) (unhide HKL))
        rw [unhide HA] at dP
        have HPT : Hid (cnd1 q.nodes (cndTo q.nodes k) k = partS q.nodes k) := by show _ = _; rw [unhide hc1, if_neg hop]
        have cN := (unhide HC0 _ (unhide HR1).bel).1
        rw [unhide HA] at cN
        obtain ⟨x3, hx3⟩ : ∃ y, y = partS q.nodes k := ⟨_, rfl⟩
        rw [← hx3] at dP HPT
        clear hx3 hop
        go_wp2_with fail
        refine (unhide dP).mono ?_
        rintro e v1 ⟨rfl, hw⟩
        obtain ⟨p8, c8, w8, r8, o8⟩ := ((unhide HR1).below hw).put kP_ok x3 #[.int .i64 x3.1, .int .i64 x3.2.1, .int .i64 x3.2.2] rfl 98 (by omega) (nat_bound (c := 2600000000001) (by omega) (by decide))
        have r8 : (Builtin.append_ #[98, 98] 98 #[.slice pq k cq, .slice (some ⟨v1.heap.size, 0, none⟩) 1 1]).run Tryd.prog (v1.alloc (.cells #[.int .i64 x3.1, .int .i64 x3.2.1, .int .i64 x3.2.2] 69)) = .ok (.slice p8 (k + 1) c8) w8 := r8
        have HR8 := hide r8; have HO8 := hide o8
        clear hw r8 o8
        unfold P3.val
        go_wp2_with (at_builtin; refine wpList_append_run rfl _ _ 98 rfl _ _ _ _ rfl rfl (unhide HR8) ?_)
        refine ⟨⟨k + 1, p8, c8, by go_num, by omega, rfl, ?_⟩, by simp [intOf]; omega⟩
        show Rw _ _ _ _ _ _
        rw [unhide HTK, unhide HPT]
        exact unhide HO8
    · have hkw : k = w + 1 := by omega
      subst hkw
      obtain ⟨g, hg, _, _, _, _⟩ := (unhide hrel).start (by omega)
      subst hg
      obtain ⟨c0, c1⟩ := unhide HC0 _ (unhide hrel).bel
      have hr1 := unhide HR1 _ (unhide hrel).bel
      have hlen := cnd_len q.nodes (w + 1)
      obtain ⟨b9, o9, e9, _, r9⟩ := ((unhide hrel).lies kP_ok).2 w (by omega)
      cases e9
      obtain ⟨x3, hx3⟩ : ∃ y, y = (cndTo q.nodes (w + 1))[w]'(by omega) := ⟨_, rfl⟩
      rw [← hx3] at r9
      have hl3 : (ld69 (.pointer (some ⟨g, w * 3, none⟩))).run Tryd.prog wr = .ok (.agg #[.int .i64 x3.1, .int .i64 x3.2.1, .int .i64 x3.2.2]) wr := run_ld69 (x := x3) (fun j u hu => by have := r9 j u hu; simpa [kP] using this)
      have HCND : Hid (cndS q = x3) := by
        show _ = _
        unfold cndS
        rw [unhide HWW, Int.toNat_natCast, hx3]
        simp [List.getD, show w < (cndTo q.nodes (w + 1)).length by omega]
      have hs := run_st69 hr1 x3.1 x3.2.1 x3.2.2
      have hy := heap_setCells3 (v0 := .int .i64 x3.1) (v1 := .int .i64 x3.2.1) (v2 := .int .i64 x3.2.2) hr1
      obtain ⟨Y, hY⟩ : ∃ Y, Y = wr.setCells (W.heap.size + 1) 0 [.int .i64 x3.1, .int .i64 x3.2.1, .int .i64 x3.2.2] := ⟨_, rfl⟩
      rw [← hY] at hs hy
      have y0 : Y.cell? ⟨W.heap.size + 1, 0, none⟩ = some (.int .i64 x3.1) := by rw [cell_at hy]; rfl
      have y1 : Y.cell? ⟨W.heap.size + 1, 1, none⟩ = some (.int .i64 x3.2.1) := by rw [cell_at hy]; rfl
      have y2 : Y.cell? ⟨W.heap.size + 1, 2, none⟩ = some (.int .i64 x3.2.2) := by rw [cell_at hy]; rfl
      have HBY : Hid (Below W.heap.size W Y) := by rw [hY]; exact below_setCells (by omega) _ _ _ _ ((unhide HB2).trans ((unhide hrel).bel.mono (unhide HB2).size))
      have hww1 : (w : Int) < (w : Int) + 1 := by omega
      clear hy hY hx3 r9 hr1 hlen c0
      go_wp2_with fail
      exact bodyPost_ret (v := .agg #[.int .i64 x3.1, .int .i64 x3.2.1, .int .i64 x3.2.2]) (by simp [results, Tryd.results32, go_sem, *]) rfl ⟨by rw [unhide HCND]; rfl, unhide HBY⟩
end Go.Proofs.YtcelllihidkphaaDoor
