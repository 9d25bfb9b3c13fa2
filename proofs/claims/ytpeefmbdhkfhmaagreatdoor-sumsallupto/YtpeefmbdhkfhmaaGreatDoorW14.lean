import Derived.Test.YtpeefmbdhkfhmaaGreatDoorW13
import Derived.Deep.DeepCutAuto
import Derived.Test.YtpeefmbdhkfhmaaGreatDoorW12
import Derived.Deep.RegionHeldLaw
import Derived.Deep.RegionLaw
import Derived.Deep.RegionHeld3
/- sums: totalsWith (20). -/
namespace Go.Proofs.YtpeefmbdhkfhmaaGreatDoor
open Go Go.ChangeShapes Go.WideShapes Go.ChangeAt Go.RowKit Go.Maps
set_option linter.unusedVariables false
attribute [local go_sem ↓] ld35_is
/-- an append as a step of a region that draws, by its run -/
theorem step_append_run {P : Program} {ops : Array Oper} {o : Oper} {a : Act} {K : Act → World → Prop} {Q : Exit → Act → World → Prop} {E : Prop} (w : World) (hgd : o.guard = none) (s x : Operand) (t : TypeId)
    (ho : o.op = .call { callee := .builtin .append, args := #[s, x], argTypes := #[t, t] }) (v u v' : Value) (w' : World) (hs : a.eval s = v) (hx : a.eval x = u) (hr : (Builtin.append_ #[t, t] o.type #[v, u]).run P w = .ok v' w')
    (h : K (a.put o.dst v') w') : if Region.wanted o (yielded ops a.tmps) = true then Oper.wp P o a w K Q else E := by
  have hw : Region.wanted o (yielded ops a.tmps) = true := by simp [Region.wanted, hgd]
  rw [if_pos hw]
  unfold Oper.wp execOp
  simp only [ho, resolve, invoke, builtin, Sem.run_bind, Sem.run_pure, Result.andThen_ok, List.map_toArray, List.map_cons, List.map_nil, hs, hx, hr]
  exact h
theorem wf_in {x : Int} (h : -9223372036854775808 ≤ x) (h' : x ≤ 9223372036854775807) : (Lit.int .i64 x).wf = true := by
  have e1 : IntKind.i64.min = -9223372036854775808 := by decide
  have e2 : IntKind.i64.max = 9223372036854775807 := by decide
  simp [Lit.wf, e1, e2]
  omega
theorem take_snoc {α : Type} (l : List α) (k : Nat) (h : k < l.length) : l.take (k + 1) = l.take k ++ [l[k]] := by
  rw [List.take_succ_eq_append_getElem h]
theorem told_rel {w wr w3 : World} {A o1 : Obj} {N j : Nat} {R : List Ro} {r : Ro} {D' : DataW Value} {V' : List UInt8 → Value} (hjR : j < R.length) (hr : r = R[j]) (hB : Below w.heap.size w wr) (hz : w.heap.size + 1 ≤ wr.heap.size) (hN : R.length = N)
    (hT : TAt w3 (w.heap.size + 1) w.heap.size (j + 1) D' (rws (R.take j) ++ [(r.acc.data.toList, r.amt)]) V')
    (hF : w3.os = ((wr.alloc A).alloc o1).drew.os ∧ w3.tape = ((wr.alloc A).alloc o1).drew.tape ∧ w3.output = ((wr.alloc A).alloc o1).drew.output ∧ ((wr.alloc A).alloc o1).drew.heap.size ≤ w3.heap.size ∧ ∀ k, k < w.heap.size + 1 → k ≠ w.heap.size → w3.heap[k]? = ((wr.alloc A).alloc o1).drew.heap[k]?) :
    ∃ (i : Nat) (D : DataW Value) (V : List UInt8 → Value), Value.int .i64 ((j : Int) + 1) = .int .i64 (i : Int) ∧ i ≤ N ∧ Hid (TAt w3 (w.heap.size + 1) w.heap.size i D (rws (R.take i)) V) ∧ Hid (Below w.heap.size w w3) ∧ Hid (w.heap.size + 1 ≤ w3.heap.size) := by
  obtain ⟨h1, h2, h3, h4, h5⟩ := hF
  have hb2 : Below w.heap.size w ((wr.alloc A).alloc o1) := (hB.alloc (by omega) A).alloc (by simp; omega) o1
  refine ⟨j + 1, D', V', by simp, by omega, ?_, ⟨h1.trans hb2.os, h2.trans hb2.tape, h3.trans hb2.output, Nat.le_trans hb2.size h4, fun k hk => (h5 k (by omega) (by omega)).trans (hb2.block k hk)⟩, ?_⟩
  · show TAt _ _ _ _ _ _ _
    rw [take_snoc R j hjR, rws_append, ← hr]
    exact hT
  · show _ ≤ _
    have h6 : ((wr.alloc A).alloc o1).drew.heap.size = wr.heap.size + 1 + 1 := by simp
    omega
set_option maxRecDepth 100000 in
set_option maxHeartbeats 4000000 in
theorem totals_any20 (d : Nat) (mo mr : Option Nat) (n : Nat) (f g : List UInt8 → Int) (a c : Int) (w : World) (hS : SumsAt w d mo mr n f g a c) (hf : ∀ k, isA (f k)) (ha : isA a) (hc : isA c) (p : Option Addr) (N cR : Nat) (R : List Ro) (hN : R.length = N) (hN2 : N ≤ 8388608) (hR : RowsAt w p R)
    (hacc : ∀ r ∈ R, r.acc.size ≤ maxLen) (hamt : ∀ r ∈ R, isA r.amt) :
    Calls Tryz.prog 82 #[.pointer (some ⟨d, 0, none⟩), .slice p N cR] w fun e w' => TwOut f (rws R) a c e ∧ Below w.heap.size w w' := by
  have HS := hide hS; have HR := hide hR; have HA := hide hacc; have HM := hide hamt; have Hf := hide hf; have Ha := hide ha; have Hc := hide hc
  have hmk := fun W => run_makeMap (P := Tryz.prog) 183 W
  clear hS hR hacc hamt hf ha hc
  go_enter Tryz.func82, Tryz.ntmps82
  go_wp2_with fail
  go_loopw [24] (fun v wr => ∃ (j : Nat) (D : DataW Value) (V : List UInt8 → Value), v = .int .i64 j ∧ j ≤ N ∧ Hid (TAt wr (w.heap.size + 1) w.heap.size j D (rws (R.take j)) V) ∧ Hid (Below w.heap.size w wr) ∧ Hid (w.heap.size + 1 ≤ wr.heap.size)) (fun v _ => N - (intOf v).toNat)
  case atStart => exact ⟨0, _, _, rfl, by omega, TAt.made w _ (by omega), (Below.refl _ w).alloc (Nat.le_refl _) _, by show _ ≤ (w.alloc _).heap.size; simp⟩
  case round =>
    obtain ⟨j, D, V, rfl, hj, hT, hB, hz⟩ := hrel
    by_cases hlt : j < N
    · have hjR : j < R.length := by omega
      obtain ⟨q, rfl, hq, hcell⟩ := unhide HR j hjR
      obtain ⟨r, hr⟩ : ∃ r, r = R[j] := ⟨_, rfl⟩
      rw [← hr] at hcell
      have hrm : r ∈ R := by rw [hr]; exact List.getElem_mem hjR
      have hld := run_ld35 (w := wr) (g := q) (k := j) (r := r) (fun i v hv => (Below.cell (unhide hB) (p := ⟨q, j * 9 + i, none⟩) hq).trans (hcell i v hv))
      obtain ⟨A, hA⟩ : ∃ A, A = Obj.cells #[.int .i64 r.i0, .int .i64 r.i1, .int .i64 r.i2, .int .i64 r.i3, .string r.s4, .string r.acc, .int .i64 r.amt, .string r.s7, .string r.s8] 74 := ⟨_, rfl⟩
      have hs := unhide HA r hrm
      have hm := unhide HM r hrm
      have hwf : (Lit.int .i64 r.amt).wf = true := wf_in (by omega) (by omega)
      have T1 := ((unhide hT).alloc A).drew
      have T2 := (((unhide hT).alloc A).alloc (.cells #[.int .i64 r.amt] 2)).drew
      have hl1 := T1.look hs
      have hl2 := T2.look hs
      obtain ⟨v', w2, w3, D', V', hap, hup, hT3, ho3, ht3, hu3, hz3, hb3, hg2⟩ := T2.step (by have := unhide hz; simp; omega) (by omega) (by unfold maxLen; omega) (by rw [rws_len, List.length_take]; omega) hs hwf (wr.heap.size + 1) (fun i u hu => by
        have := cell_one_new (wr.alloc A) (.int .i64 r.amt) 2 i u hu
        rw [World.size_alloc] at this
        exact this) 84
      have hfar : some wr.heap.size ≠ (V r.acc.data.toList).ownBlock := fun e => by
        have := ints_block ((unhide hT).row r.acc.data.toList) e.symm
        omega
      have hcA : w2.cell? ⟨wr.heap.size, 5, none⟩ = some (.string r.acc) := by
        refine (World.cell?_of_block (a := ⟨wr.heap.size, 5, none⟩) (hg2.block wr.heap.size (by simp; omega) hfar)).trans ?_
        subst hA
        show ((wr.alloc _).alloc _).cell? _ = _
        rw [World.cell?_alloc_lt _ _ _ (by simp), World.cell?_alloc_mark]
        rfl
      have HAP := hide hap
      clear hap
      subst hA
      have HT3 := hide hT3
      have HF := hide (And.intro ho3 (And.intro ht3 (And.intro hu3 (And.intro hz3 hb3))))
      have HRr := hide hr
      clear hfar hg2 T1 T2 hT3 ho3 ht3 hu3 hz3 hb3 hm hwf hs hrm hr hcell
      go_wp2_with fail
      go_region_law (refine step_append_run _ rfl _ _ _ rfl _ _ _ _ rfl rfl (unhide HAP) ?_)
      all_goals go_wp2_with fail
      all_goals go_round
      all_goals first
        | exact told_rel hjR (unhide HRr) (unhide hB) (unhide hz) hN (unhide HT3) (unhide HF)
        | (simp [intOf]; omega)
    · have hjN : j = N := by omega
      subst hjN
      clear hlt hj
      have hT' : Hid (TAt wr (w.heap.size + 1) w.heap.size j D (rws R) V) := by
        have h := unhide hT
        rw [List.take_of_length_le (by omega)] at h
        exact h
      have hSr := (unhide HS).below (w' := wr) (unhide hB)
      have h2 := hSr.c2
      have h3 := hSr.c3
      have hdr : d < wr.heap.size := World.block_lt_of_cell? wr _ hSr.c0
      have h2a := fun o => (World.cell?_alloc_lt wr o ⟨d, 2, none⟩ hdr).trans h2
      have h3a := fun o => (World.cell?_alloc_lt wr o ⟨d, 3, none⟩ hdr).trans h3
      have HSr := hide hSr
      clear hSr
      go_wp2_with fail
      go_cut [10, 11] (fun v10 v11 wx => Hid (Lm (w.heap.size + 1) V (rws R) (fun k => k ∈ (rws R).map (·.1)) [a] [c] v10 v11 wx ∧ Below wr.heap.size wr wx))
      case first =>
        go_region
        all_goals go_wp2_with fail
        all_goals go_meet
        case rel =>
          show _ ∧ _
          have hb : Below wr.heap.size wr ((wr.alloc (.cells #[.int .i64 a] 2)).alloc (.cells #[.int .i64 c] 2)).drew := (((Below.refl _ wr).alloc (Nat.le_refl _) _).alloc (by simp) _).drew
          refine ⟨lm_first (p := wr.heap.size) (q := wr.heap.size + 1) (unhide hT') (unhide hz) (wf_in (by have := unhide Ha; omega) (unhide Ha).2) (wf_in (by have := unhide Hc; omega) (unhide Hc).2) hb (by omega) (by omega) (by omega) ?_ ?_, hb⟩
          · exact (Below.heap_alloc _ _ _ (by simp)).trans (World.alloc_heap_new wr _)
          · have h := World.alloc_heap_new (wr.alloc (.cells #[.int .i64 a] 2)) (.cells #[.int .i64 c] 2)
            rw [World.size_alloc] at h
            exact h
        case rel =>
          show _ ∧ _
          have hb : Below wr.heap.size wr ((wr.alloc (.cells #[.int .i64 c] 2)).alloc (.cells #[.int .i64 a] 2)).drew := (((Below.refl _ wr).alloc (Nat.le_refl _) _).alloc (by simp) _).drew
          refine ⟨lm_first (p := wr.heap.size + 1) (q := wr.heap.size) (unhide hT') (unhide hz) (wf_in (by have := unhide Ha; omega) (unhide Ha).2) (wf_in (by have := unhide Hc; omega) (unhide Hc).2) hb (by omega) (by omega) (by omega) ?_ ?_, hb⟩
          · have h := World.alloc_heap_new (wr.alloc (.cells #[.int .i64 c] 2)) (.cells #[.int .i64 a] 2)
            rw [World.size_alloc] at h
            exact h
          · exact (Below.heap_alloc _ _ _ (by simp)).trans (World.alloc_heap_new wr _)
      clear h2 h3 h2a h3a
      have hmx : Hid (wc.ownsMap Tryz.prog 9 sliceElem w.heap.size j D) := (unhide hT').map.kept (grown_of_below (unhide hcut).2) (by simp)
      go_wp2_with (at_range; refine wpList_range_own _ rfl _ 183 rfl 9 84 (string_keyed Tryz.underlying9) Tryz.underlying183 sliceElem w.heap.size j _ rfl (unhide hmx) ?_; intro w0 hrg0 hg0 hs0)
      go_frame
      have hw0 : Hid (Lm (w.heap.size + 1) V (rws R) (fun k => k ∈ (rws R).map (·.1)) [a] [c] u10 u11 w0) := (unhide hcut).1.below (below_of_grown hg0) (fun k h => h) (by simp) (by simp)
      have hb0 : Hid (Below w.heap.size w w0) := (unhide hB).trans (((unhide hcut).2.trans ((below_of_grown hg0).mono (unhide hcut).2.size)).mono (unhide hB).size)
      have hwcs : Hid (w.heap.size + 1 ≤ wc.heap.size) := Nat.le_trans (unhide hz) (unhide hcut).2.size
      clear hcut hg0
      go_loopw [10, 11] (fun v10 v11 wr => ∃ (left : Lit → Bool) (cnt : Nat) (ss : List (List UInt8)) (dl cl : List Int), wr.ranges Tryz.prog 9 sliceElem w.heap.size wc.heap.size j D left cnt ∧ Hid (Collected D left ss) ∧ Hid (Lm (w.heap.size + 1) V (rws R) (fun k => k ∈ (rws R).map (·.1) ∧ left (.string k) = true) dl cl v10 v11 wr) ∧ Hid (Ln f (rws R) a c ss dl cl) ∧ Hid (Below w.heap.size w wr)) (fun _ _ wr => wr.rangeLeft w.heap.size wc.heap.size)
      case atStart =>
        refine ⟨_, _, [], _, _, hrg0, Collected.start _, (unhide hw0).less (fun k h => h.1), Ln.start f _ (unhide Ha) (unhide Hc), unhide hb0⟩
      case round =>
        obtain ⟨left, cnt, ss, dl, cl, hrg, hC, hL, hn, hb⟩ := hrel
        go_wp2_with (at_next; refine wpList_next_ranges _ rfl _ rfl 9 (string_keyed Tryz.underlying9) sliceElem encStr (fun c : Option Addr × Nat × Nat => .slice c.1 c.2.1 c.2.2) (fun key kl hk => by obtain ⟨x, hx, _⟩ := Maps.keyOf_str Tryz.underlying9 hk; exact ⟨x, hx⟩) (fun v y hv => by obtain ⟨p, m, c, h1, _⟩ := sliceElem_inv hv; exact ⟨(p, m, c), h1⟩) w.heap.size wc.heap.size j _ _ _ rfl hrg ?_ ?_)
        · intro hc0 hl0
          have hnn := unhide hn
          have hLL := unhide hL
          have hCC := unhide hC
          have hmem : ∀ k, k ∈ ss ↔ k ∈ (rws R).map (·.1) := fun k => by rw [hCC.2 k, hl0, ← (unhide hT').key k]; simp
          have hlen := ss_len hCC.1 (fun k hk => (hmem k).1 hk)
          rw [rws_len] at hlen
          have hfin := hide (hnn.fin hCC.1 hmem)
          have hd0 : dl ≠ [] := fun e => by have := hnn.dn; rw [e] at this; simp at this; omega
          have hc0' : cl ≠ [] := fun e => by have := hnn.cn; rw [e] at this; simp at this; omega
          have s1 := hide (msum_rows hLL.r10 hd0 (by rw [hnn.dn]; omega) hnn.da)
          have s2 := hide (msum_rows hLL.r11 hc0' (by rw [hnn.cn]; omega) hnn.ca)
          obtain ⟨X1, hX1⟩ : ∃ X, X = (sumA dl).1 := ⟨_, rfl⟩
          obtain ⟨E1, hE1⟩ : ∃ X, X = (sumA dl).2 := ⟨_, rfl⟩
          obtain ⟨X2, hX2⟩ : ∃ X, X = (sumA cl).1 := ⟨_, rfl⟩
          obtain ⟨E2, hE2⟩ : ∃ X, X = (sumA cl).2 := ⟨_, rfl⟩
          rw [← hX1, ← hE1] at s1
          rw [← hX2, ← hE2] at s2
          have HX1 := hide hX1; have HE1 := hide hE1; have HX2 := hide hX2; have HE2 := hide hE2
          clear hX1 hX2 hnn hLL hCC hmem hlen hc0' hd0 hrg hrg0 hs0
          by_cases he1 : isA (sm id dl)
          · have e1 : E1 = 0 := by rw [hE1, sumA, if_pos he1]
            subst e1
            clear hE1
            by_cases he2 : isA (sm id cl)
            · have e2 : E2 = 0 := by rw [hE2, sumA, if_pos he2]
              subst e2
              clear hE2
              have HE := hide (And.intro he1 he2)
              clear he1 he2
              go_wp2_with fail
              refine (unhide s1).mono ?_
              rintro e w3 ⟨rfl, hw⟩
              rw [hw]
              clear hw
              go_wp2_with fail
              refine (unhide s2).mono ?_
              rintro e w3 ⟨rfl, hw⟩
              rw [hw]
              clear hw
              go_wp2_with fail
              go_ret3
              refine ⟨.inl ⟨⟨(unhide hfin).2.2, ?_, ?_⟩, ?_⟩, unhide hb⟩
              · rw [← (unhide hfin).1]; exact (unhide HE).1
              · rw [← (unhide hfin).2.1]; exact (unhide HE).2
              · rw [← (unhide hfin).1, ← (unhide hfin).2.1, unhide HX1, unhide HX2, sumA, sumA, if_pos (unhide HE).1, if_pos (unhide HE).2]
                rfl
            · have e2 : E2 = 11 := by rw [hE2, sumA, if_neg he2]
              subst e2
              clear hE2
              have HE := hide he2
              clear he1 he2
              go_wp2_with fail
              refine (unhide s1).mono ?_
              rintro e w3 ⟨rfl, hw⟩
              rw [hw]
              clear hw
              go_wp2_with fail
              refine (unhide s2).mono ?_
              rintro e w3 ⟨rfl, hw⟩
              rw [hw]
              clear hw
              go_wp2_with fail
              go_ret3
              refine ⟨.inr ⟨fun h => unhide HE ?_, _, _, rfl⟩, unhide hb⟩
              rw [(unhide hfin).2.1]
              exact h.2.2
          · have e1 : E1 = 11 := by rw [hE1, sumA, if_neg he1]
            subst e1
            clear hE1 hE2
            have HE := hide he1
            clear he1
            go_wp2_with fail
            refine (unhide s1).mono ?_
            rintro e w3 ⟨rfl, hw⟩
            rw [hw]
            clear hw
            go_wp2_with fail
            go_ret3
            refine ⟨.inr ⟨fun h => unhide HE ?_, _, _, rfl⟩, unhide hb⟩
            rw [(unhide hfin).1]
            exact h.2.1
        · intro kb pa ma ca kl y1 y2 w1 cnt1 hkey hlk hel hat hrg1 hlt1 hg1 hs1 hen
          obtain ⟨x, hx, rfl, hkl⟩ := Maps.keyOf_str Tryz.underlying9 hkey
          have hxk : kb = x := encStr_inj hx
          subst hxk
          have hy1 : y1 = .held (.slice pa ma ca) := by
            obtain ⟨_, _, _, _, e⟩ := sliceElem_inv hel
            exact congrArg Prod.fst e
          subst hy1
          have hV : V kb = .slice pa ma ca := by
            have h1 := (unhide hT').val kb
            rw [hat] at h1
            injection h1 with h1
            exact h1.symm
          have hkn : kb ∈ (rws R).map (·.1) := ((unhide hT').key kb).1 (Maps.has_true_of_atKey hat)
          have hnn := unhide hn
          have hCC := unhide hC
          have hlen := ss_len hCC.1 (fun k hk => ((unhide hT').key k).1 ((hCC.2 k).1 hk).1)
          rw [rws_len] at hlen
          have hal := amts_len (rws R) kb
          rw [rws_len] at hal
          obtain ⟨iw, hiw, hiww⟩ := hrg.iter_walk
          have hL1 := (unhide hL).turn hiw (Obj.not_cells_of_walk hiww) hg1
          have hb1 : Below w.heap.size w w1 := (unhide hb).trans ⟨hg1.os, hg1.tape, hg1.output, hg1.size, fun k hk => hg1.block k (Nat.lt_of_lt_of_le hk (unhide hb).size) (fun e => by
            injection e with e
            have := unhide hwcs
            omega)⟩
          have hS1 := (unhide HS).below (w' := w1) hb1
          obtain ⟨s, hs⟩ : ∃ s : ByteArray, s = ⟨kb.toArray⟩ := ⟨_, rfl⟩
          have hse : encStr kb = .string s := by rw [hs]
          have hsl : s.data.toList = kb := by rw [hs]
          have hss : s.size ≤ maxLen := by rw [hs]; simpa [ByteArray.size] using hkl
          have dOwn := hide (own_any s hss d mo mr n f g a c w1 hS1)
          rw [hsl] at dOwn
          rw [hse] at hen ⊢
          obtain ⟨i0, hi, hz0, hz1, hz2⟩ := info_parts info2
          have HI := hide hi; have HZ0 := hide hz0; have HZ1 := hide hz1; have HZ2 := hide hz2
          obtain ⟨F, hF⟩ : ∃ F, F = f kb := ⟨_, rfl⟩
          have hFa : isA F := by rw [hF]; exact unhide Hf kb
          rw [← hF] at dOwn
          have HF := hide hF
          have HL1 := hide hL1; have HB1 := hide hb1; have HS1 := hide hS1; have HV := hide hV; have HKN := hide hkn; have HSL := hide hsl; have HLK := hide hlk; have HAT := hide hat; have HLEN := hide hlen; have HAL := hide hal
          have HRG1 := hide hrg1; have HZS := hide hs1
          have HRG := hide hrg
          clear hL1 hb1 hS1 hV hkn hsl hlk hat hF hnn hCC hs hx hkey hel hkl hi hz0 hz1 hz2 hiw hiww hg1 hse hlen hal hrg hrg1 hs1
          go_wp2_with fail
          refine (unhide dOwn).mono ?_
          rintro e w2 ⟨rfl, hw⟩
          rw [hw]
          clear hw w2 dOwn
          have hrow := (unhide HL1).t kb ⟨unhide HKN, unhide HLK⟩
          rw [unhide HV] at hrow
          have hbz : w.heap.size + 1 ≤ w1.heap.size := by
            rw [unhide HZS]
            have h1 := (unhide HRG).lt
            have h2 := unhide hwcs
            omega
          have hrowA := hide (hrow.1.alloc (.cells #[.int .i64 F] 2))
          have hrA := hide (hrow.alloc (.cells #[.int .i64 F] 2))
          have hbzA : Hid (w.heap.size + 1 ≤ (w1.alloc (.cells #[.int .i64 F] 2)).heap.size) := by show _ ≤ _; rw [World.size_alloc]; omega
          have hl1 : Hid ((amts (rws R) kb).length + 1 ≤ maxLen) := by show _ ≤ _; have := unhide HAL; unfold maxLen; omega
          have hl2 : Hid (((amts (rws R) kb).length + 1) * 8 ≤ 140737488355328) := by show _ ≤ _; have := unhide HAL; omega
          clear hrow
          have HBZ := hide hbz
          clear hbz
          go_wp2_with (at_builtin; refine wpList_append_own_at _ rfl _ _ 84 rfl (w.heap.size + 1) 2 i0 (.int .i64 0) 1 8 Tryz.underlying84 (unhide HI) (unhide HZ0) (unhide HZ1) (unhide HZ2) rfl (by decide) (.slice pa ma ca) (amts (rws R) kb).length _ rfl (unhide hrowA) ⟨w1.heap.size, 0, none⟩ 1 1 [.int .i64 F] rfl rfl (cell_one_new _ _ _) (ints_oneCell .i64 [F]) (unhide hl1) (unhide hl2) (unhide hbzA) ?_; intro v' w2 hown' hgrow hnil hloc; have HO2 := hide hown'; have HG2 := hide hgrow; have HLC2 := hide hloc; clear hown' hgrow hnil hloc)
          have hrow' := (unhide hrA).appended (unhide HO2) (wf_in (by omega) hFa.2)
          have hLA : Lm (w.heap.size + 1) V (rws R) (fun k => k ∈ (rws R).map (·.1) ∧ left (.string k) = true) dl cl u10 u11 (w1.alloc (.cells #[.int .i64 F] 2)) := (unhide HL1).below (bal (Below.refl _ _) _) (fun k h => h.1) (fun e => by have := (unhide hn).dn; rw [e] at this; simp at this; omega) (fun e => by have := (unhide hn).cn; rw [e] at this; simp at this; omega)
          have hgrow := unhide HG2
          have hL2 : Lm (w.heap.size + 1) V (rws R) (fun k => k ∈ (rws R).map (·.1) ∧ (left (.string k) && !(Lit.string k).sameKey (.string kb)) = true) dl cl u10 u11 w2 := by
            have hless := hLA.less (lf' := fun k => k ∈ (rws R).map (·.1) ∧ (left (.string k) && !(Lit.string k).sameKey (.string kb)) = true) (fun k h => ⟨h.1, by have := h.2; simp at this; exact this.1⟩)
            have hkk := And.intro (unhide HKN) (unhide HLK)
            rw [← unhide HV] at hgrow
            refine hless.kept hgrow (fun e => hLA.a10 kb hkk e.symm) (fun e => hLA.a11 kb hkk e.symm) (fun k h e => ?_)
            have h2 := h.2
            simp at h2
            exact hLA.ap k kb (fun e2 => by have h3 := h.2; rw [e2] at h3; simp [Lit.sameKey] at h3) ⟨h.1, h2.1⟩ hkk e
          have hsum : sm id (amts (rws R) kb ++ [F]) = newV f (rws R) kb := by
            rw [sm_append, amts_sum, newV, ← unhide HF]
            simp [sm]
            omega
          have dSum := hide (msum_rows hrow' (by simp) (by have := unhide HAL; simp; omega) (fun x hx => by
            rcases List.mem_append.1 hx with hx | hx
            · obtain ⟨r, hr, hrr⟩ := List.mem_map.1 (amts_mem hx)
              have h1 := unhide HM r hr
              have h2 : r.amt = x := congrArg Prod.snd hrr
              rw [← h2]
              exact h1
            · simp at hx
              rw [hx]
              exact hFa))
          have hb2 : Below w.heap.size w w2 := below_row (((unhide HB1).alloc (by have := unhide HBZ; omega) _)) (unhide hrA) (by omega) hgrow (by have := unhide hbzA; omega)
          have hrg2 := ((unhide HRG1).alloc (.cells #[.int .i64 F] 2)).kept hgrow (ranges_ints ((unhide HRG1).alloc _) (unhide hrA)).1 (ranges_ints ((unhide HRG1).alloc _) (unhide hrA)).2
          have hz2 : w.heap.size + 1 ≤ w2.heap.size := Nat.le_trans (unhide hbzA) hgrow.size
          have HL2 := hide hL2; have HB2 := hide hb2; have HRG2 := hide hrg2; have HSM := hide hsum; have HZ2' := hide hz2
          clear hrow' hLA hgrow hL2 hb2 hrg2 hz2 HO2 HG2 HLC2 hl1 hl2 hbzA hrA hrowA HL1 HB1 HS1
          obtain ⟨Y, hY⟩ : ∃ Y, Y = newV f (rws R) kb := ⟨_, rfl⟩
          by_cases hya : isA Y
          · have e1 : sumA (amts (rws R) kb ++ [F]) = (Y, 0) := by rw [sumA, if_pos (by rw [hsum, ← hY]; exact hya), hsum, ← hY]
            rw [e1] at dSum
            have HY := hide hY
            clear e1 hsum hY
            have dOwn := hide (own_any s hss d mo mr n f g a c w2 ((unhide HS).below (w' := w2) (unhide HB2)))
            rw [unhide HSL, ← unhide HF] at dOwn
            have dC0 := hide (column_any s F hFa.1 hFa.2)
            have dC1 := hide (column_any s Y hya.1 hya.2)
            have hp0 := pos_isA hFa
            have hn0 := neg_isA hFa
            have hp1 := pos_isA hya
            have hn1 := neg_isA hya
            obtain ⟨P0, hP0⟩ : ∃ Q, Q = pos F := ⟨_, rfl⟩
            obtain ⟨N0, hN0⟩ : ∃ Q, Q = neg F := ⟨_, rfl⟩
            obtain ⟨P1, hP1⟩ : ∃ Q, Q = pos Y := ⟨_, rfl⟩
            obtain ⟨N1, hN1⟩ : ∃ Q, Q = neg Y := ⟨_, rfl⟩
            rw [← hP0] at hp0
            rw [← hN0] at hn0
            rw [← hP1] at hp1
            rw [← hN1] at hn1
            rw [← hP0, ← hN0] at dC0
            rw [← hP1, ← hN1] at dC1
            have HP0 := hide hP0; have HN0 := hide hN0; have HP1 := hide hP1; have HN1 := hide hN1
            have hwP : IntKind.i64.wrap (-P0) = -P0 := by rw [IntKind.wrap_i64]; omega
            have hwN : IntKind.i64.wrap (-N0) = -N0 := by rw [IntKind.wrap_i64]; omega
            have hya' := hya
            clear hP0 hN0 hP1 hN1 hya
            refine (unhide dSum).mono ?_
            rintro e w3 ⟨rfl, hw⟩
            rw [hw]
            clear hw w3 dSum
            go_wp2_with fail
            refine (unhide dOwn).mono ?_
            rintro e w3 ⟨rfl, hw⟩
            rw [hw]
            clear hw w3 dOwn
            go_wp2_with fail
            refine (unhide dC0 _).mono ?_
            rintro e w3 ⟨rfl, hb3⟩
            have HB3 := hide hb3
            clear hb3
            go_wp2_with fail
            refine (unhide dC1 _).mono ?_
            rintro e w4 ⟨rfl, hb4⟩
            have HB4 := hide hb4
            clear hb4
            have hnd : dl ≠ [] := fun e => by have := (unhide hn).dn; rw [e] at this; simp at this; omega
            have hnc : cl ≠ [] := fun e => by have := (unhide hn).cn; rw [e] at this; simp at this; omega
            have hb24 : Below w2.heap.size w2 w4 := (unhide HB3).trans ((unhide HB4).mono (unhide HB3).size)
            obtain ⟨A0, hA0⟩ : ∃ A, A = Obj.cells #[.string s, .int .i64 P0, .int .i64 N0] 123 := ⟨_, rfl⟩
            obtain ⟨A1, hA1⟩ : ∃ A, A = Obj.cells #[.string s, .int .i64 P1, .int .i64 N1] 123 := ⟨_, rfl⟩
            obtain ⟨C0, hC0⟩ : ∃ A, A = Obj.cells #[.int .i64 P1, .int .i64 (-P0)] 2 := ⟨_, rfl⟩
            have hb25 : Below w2.heap.size w2 (((w4.alloc A0).alloc A1).alloc C0) := ((hb24.alloc (by have := hb24.size; omega) A0).alloc (by have := hb24.size; simp; omega) A1).alloc (by have := hb24.size; simp; omega) C0
            have hL5 := (unhide HL2).below hb25 (fun k h => h.1) hnd hnc
            have hB5 : Below w.heap.size w (((w4.alloc A0).alloc A1).alloc C0) := (unhide HB2).trans (hb25.mono (by have := unhide HZ2'; omega))
            have hrg5 := ranges_below (unhide HRG2) hb25
            have hlen5 : Hid (w.heap.size + 1 ≤ (((w4.alloc A0).alloc A1).alloc C0).heap.size) := Nat.le_trans (unhide HZ2') hb25.size
            have hnw : Hid (∀ j u, ([.int .i64 P1, .int .i64 (-P0)] : List Value)[j]? = some u → (((w4.alloc A0).alloc A1).alloc C0).cell? ((⟨w4.heap.size + 1 + 1, 0, none⟩ : Addr).add j) = some u) := fun j u hu => by
              have h := cell_two_new ((w4.alloc A0).alloc A1) (.int .i64 P1) (.int .i64 (-P0)) 2 j u hu
              rw [World.size_alloc, World.size_alloc] at h
              rw [hC0]
              exact h
            have hsz5 : (((w4.alloc A0).alloc A1).alloc C0).heap.size = w4.heap.size + 1 + 1 + 1 := by simp
            have hc5 : ∀ q, q < w4.heap.size + 1 + 1 → (((w4.alloc A0).alloc A1).alloc C0).heap[q]? = ((w4.alloc A0).alloc A1).heap[q]? := fun q hq => Below.heap_alloc _ _ q (by simp; omega)
            have hfar : ∀ q, w4.heap.size ≤ q → some q ≠ u10.ownBlock := fun q hq e => by
              have h1 := ints_block (unhide HL2).r10 e.symm
              have h2 := hb24.size
              omega
            have hl1 : Hid (dl.length + 2 ≤ maxLen) := by show _ ≤ _; have h1 := (unhide hn).dn; have h2 := unhide HLEN; unfold maxLen; omega
            have hl2 : Hid ((dl.length + 2) * 8 ≤ 140737488355328) := by show _ ≤ _; have h1 := (unhide hn).dn; have h2 := unhide HLEN; omega
            have hl3 : Hid (cl.length + 2 ≤ maxLen) := by show _ ≤ _; have h1 := (unhide hn).cn; have h2 := unhide HLEN; unfold maxLen; omega
            have hl4 : Hid ((cl.length + 2) * 8 ≤ 140737488355328) := by show _ ≤ _; have h1 := (unhide hn).cn; have h2 := unhide HLEN; omega
            have after : Hid (∀ v' w6, w6.ownsRow (w.heap.size + 1) 2 1 v' (dl.length + 2) (dl.map (Value.int .i64) ++ [.int .i64 P1, .int .i64 (-P0)]) → (((w4.alloc A0).alloc A1).alloc C0).grownBy w6 u10.ownBlock → (v'.ownBlock = u10.ownBlock ∨ v'.ownBlock = some (((w4.alloc A0).alloc A1).alloc C0).heap.size) →
                Lm (w.heap.size + 1) V (rws R) (fun k => k ∈ (rws R).map (·.1) ∧ (left (.string k) && !(Lit.string k).sameKey (.string kb)) = true) (dl ++ [P1, -P0]) cl v' u11 w6 ∧ Below w.heap.size w w6 ∧ w6.ranges Tryz.prog 9 sliceElem w.heap.size wc.heap.size j D (fun z => left z && !z.sameKey (.string kb)) cnt1 ∧ w.heap.size + 1 ≤ w6.heap.size ∧ w6.cell? ⟨w4.heap.size, 2, none⟩ = some (.int .i64 N0) ∧ w6.cell? ⟨w4.heap.size + 1, 2, none⟩ = some (.int .i64 N1)) := fun v' w6 ho hg hl => by
              refine ⟨hL5.push10 hg (ints_two hL5.r10 ho (wf_in (by omega) hp1.1.2) (wf_in (by omega) hp0.2.2)) hl (fun k h => h.1) hnc, below_row hB5 hL5.r10 (by omega) hg (by have := unhide hlen5; omega), hrg5.kept hg (ranges_ints hrg5 hL5.r10).1 (ranges_ints hrg5 hL5.r10).2, Nat.le_trans (unhide hlen5) hg.size, ?_, ?_⟩
              · rw [World.cell?_of_block (a := ⟨w4.heap.size, 2, none⟩) (hg.block w4.heap.size (by omega) (hfar _ (Nat.le_refl _))), World.cell?_of_block (a := ⟨w4.heap.size, 2, none⟩) (hc5 w4.heap.size (by omega)), World.cell?_alloc_lt _ _ _ (by simp), hA0, World.cell?_alloc_mark]
                rfl
              · have e : w4.heap.size + 1 = (w4.alloc A0).heap.size := by simp
                rw [World.cell?_of_block (a := ⟨w4.heap.size + 1, 2, none⟩) (hg.block (w4.heap.size + 1) (by omega) (hfar _ (by omega))), World.cell?_of_block (a := ⟨w4.heap.size + 1, 2, none⟩) (hc5 (w4.heap.size + 1) (by omega)), e, hA1, World.cell?_alloc_mark]
                rfl
            have HR10 := hide hL5.r10.1
            clear hb24 hb25 hL5 hB5 hrg5 hsz5 hc5 hfar HL2 HB2 HRG2 HB3 HB4 dC0 dC1
            subst hA0 hA1 hC0
            go_wp2_with (first
              | (at_builtin; refine wpList_append_own_at _ rfl _ _ 84 rfl (w.heap.size + 1) 2 i0 (.int .i64 0) 1 8 Tryz.underlying84 (unhide HI) (unhide HZ0) (unhide HZ1) (unhide HZ2) rfl (by decide) u10 dl.length _ rfl (unhide HR10) ⟨w4.heap.size + 1 + 1, 0, none⟩ 2 2 [.int .i64 P1, .int .i64 (-P0)] rfl rfl (unhide hnw) (two_one _ _) (unhide hl1) (unhide hl2) (unhide hlen5) ?_; intro v10' w6 hown' hgrow hnil hloc; obtain ⟨hL6, hB6, hrg6, hz6, hx0, hx1⟩ := unhide after v10' w6 hown' hgrow hloc; have HL6 := hide hL6; have HB6 := hide hB6; have HRG6 := hide hrg6; have HZ6 := hide hz6; clear hL6 hB6 hrg6 hz6 hown' hgrow hnil hloc)
              | (at_builtin; refine wpList_append_own_at _ rfl _ _ 84 rfl (w.heap.size + 1) 2 i0 (.int .i64 0) 1 8 Tryz.underlying84 (unhide HI) (unhide HZ0) (unhide HZ1) (unhide HZ2) rfl (by decide) u11 cl.length _ rfl ((unhide HL6).r11.1.alloc _) ⟨w6.heap.size, 0, none⟩ 2 2 [.int .i64 N1, .int .i64 (-N0)] rfl rfl (cell_two_new _ _ _ _) (two_one _ _) (unhide hl3) (unhide hl4) (by rw [World.size_alloc]; have := unhide HZ6; omega) ?_; intro v11' w8 hown' hgrow hnil hloc; have HO8 := hide hown'; have HG8 := hide hgrow; have HLC8 := hide hloc; clear hown' hgrow hnil hloc))
            have hdn' : dl ++ [P1, -P0] ≠ [] := by simp
            have hL7 := (unhide HL6).below (bal (Below.refl w6.heap.size w6) (.cells #[.int .i64 N1, .int .i64 (-N0)] 2)) (fun k h => h.1) hdn' hnc
            have hrg7 := (unhide HRG6).alloc (.cells #[.int .i64 N1, .int .i64 (-N0)] 2)
            have hB7 := (unhide HB6).alloc (by have := unhide HZ6; omega) (.cells #[.int .i64 N1, .int .i64 (-N0)] 2)
            have hrg8 := hrg7.kept (unhide HG8) (ranges_ints hrg7 hL7.r11).1 (ranges_ints hrg7 hL7.r11).2
            have hL8 := hL7.push11 (unhide HG8) (ints_two hL7.r11 (unhide HO8) (wf_in (by omega) hn1.1.2) (wf_in (by omega) hn0.2.2)) (unhide HLC8) (fun k h => h.1) hdn'
            have hn8 := (unhide hn).step (k := kb) (by rw [← unhide HF]; exact hFa) (by rw [← unhide HY]; exact hya')
            rw [← unhide HY, ← unhide HF, ← unhide HP1, ← unhide HP0, ← unhide HN1, ← unhide HN0] at hn8
            refine ⟨⟨_, _, ss ++ [kb], _, _, hrg8, (unhide hC).step (unhide HLK) (unhide HAT), hL8, hn8, below_row hB7 hL7.r11 (by omega) (unhide HG8) (by rw [World.size_alloc]; have := unhide HZ6; omega)⟩, ?_⟩
            rw [hrg8.left_eq, (unhide HRG).left_eq]
            exact hlt1
          · have e1 : sumA (amts (rws R) kb ++ [F]) = (0, 11) := by rw [sumA, if_neg (by rw [hsum, ← hY]; exact hya)]
            rw [e1] at dSum
            have HY := hide hY
            have HYA := hide hya
            clear e1 hsum hY hya
            refine (unhide dSum).mono ?_
            rintro e w3 ⟨rfl, hw⟩
            rw [hw]
            clear hw w3 dSum
            go_wp2_with fail
            go_ret3
            refine ⟨.inr ⟨fun h => unhide HYA ?_, _, _, rfl⟩, unhide HB2⟩
            rw [unhide HY]
            exact h.1 kb (unhide HKN)
end Go.Proofs.YtpeefmbdhkfhmaaGreatDoor
