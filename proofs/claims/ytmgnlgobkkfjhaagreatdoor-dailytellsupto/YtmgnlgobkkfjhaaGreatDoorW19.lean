import Derived.Test.YtmgnlgobkkfjhaaGreatDoorW18
import Derived.Test.YtmgnlgobkkfjhaaGreatDoorW06
import Derived.Test.YtmgnlgobkkfjhaaGreatDoorW12
import Derived.Deep.RegionHeldLaw
import Derived.Deep.RegionLaw
import Derived.Deep.RegionHeld3
/- daily: rows; good (15), byAccount (16). -/
namespace Go.Proofs.YtmgnlgobkkfjhaaGreatDoor
open Go Go.Shelf Go.ChangeShapes Go.WideShapes Go.ChangeAt Go.RowKit Go.Maps
set_option linter.unusedVariables false
def GdOut (r : Ro) (w : World) (e : Ending) (w' : World) : Prop := (∃ b, e = .returned (.bool b) ∧ (b = true ↔ okR r)) ∧ Below w.heap.size w w'
set_option maxRecDepth 100000 in
set_option maxHeartbeats 1000000 in
theorem good_any (r : Ro) (hs : r.acc.size < 4611686018427387904) (hm : -9223372036854775808 ≤ r.amt) (w : World) :
    Calls Tryz.prog 73 #[.agg #[.int .i64 r.i0, .int .i64 r.i1, .int .i64 r.day, .int .i64 r.i3, .string r.s4, .string r.acc, .int .i64 r.amt, .string r.s7, .string r.s8]] w fun e w' => GdOut r w e w' := by
  obtain ⟨O, hO⟩ : ∃ O, O = Obj.cells #[.int .i64 r.i0, .int .i64 r.i1, .int .i64 r.day, .int .i64 r.i3, .string r.s4, .string r.acc, .int .i64 r.amt, .string r.s7, .string r.s8] 74 := ⟨_, rfl⟩
  have dN := hide (isAccount_any r.acc hs (w.alloc O))
  have hz : w.heap.size < (w.alloc O).heap.size := by simp
  have hcell : (w.alloc O).cell? ⟨w.heap.size, 2, none⟩ = some (.int .i64 r.day) ∧ (w.alloc O).cell? ⟨w.heap.size, 6, none⟩ = some (.int .i64 r.amt) := by
    rw [hO]
    exact ⟨by rw [World.cell?_alloc_mark]; rfl, by rw [World.cell?_alloc_mark]; rfl⟩
  have hb0 : Below w.heap.size w (w.alloc O) := bal (Below.refl _ _) O
  obtain ⟨nb, hnb⟩ : ∃ nb, nb = nameL r.acc.data.toList := ⟨_, rfl⟩
  have hok : Hid (okR r ↔ nb = true ∧ 1 ≤ r.day ∧ r.day ≤ 3652059 ∧ -9223372036854775807 ≤ r.amt) := by rw [hnb]; exact Iff.rfl
  rw [← hnb] at dN
  obtain ⟨X, hX⟩ : ∃ X, r.day = X := ⟨_, rfl⟩
  obtain ⟨Y, hY⟩ : ∃ Y, r.amt = Y := ⟨_, rfl⟩
  rw [hX, hY] at hcell hO hok
  rw [hY] at hm
  rw [hX, hY]
  have HB0 := hide hb0; have HZ := hide hz; have HC := hide hcell
  have hO' := hO
  clear hb0 hz hcell hnb hX hY hs
  subst hO
  go_enter Tryz.func73, Tryz.ntmps73
  go_wp2_with fail
  refine (unhide dN).mono ?_
  rintro e w1 ⟨rfl, hb1⟩
  have c2 := (hb1.cell (p := ⟨w.heap.size, 2, none⟩) (unhide HZ)).trans (unhide HC).1
  have c6 := (hb1.cell (p := ⟨w.heap.size, 6, none⟩) (unhide HZ)).trans (unhide HC).2
  have HB1 := hide ((unhide HB0).trans (hb1.mono (unhide HB0).size))
  clear hb1 dN
  by_cases hyes : nb = true ∧ 1 ≤ X ∧ X ≤ 3652059
  · obtain ⟨rfl, hx1, hx2⟩ := hyes
    by_cases hy : -9223372036854775807 ≤ Y
    · have HF : Hid (GdOut r w (.returned (.bool true)) w1) := ⟨⟨true, rfl, Iff.intro (fun _ => (unhide hok).2 ⟨rfl, hx1, hx2, hy⟩) (fun _ => rfl)⟩, unhide HB1⟩
      have dC := hide (chk_yes Y w1 hy)
      clear hok
      go_wp2_with fail
      refine (unhide dC).mono ?_
      rintro e wx ⟨rfl, hwx⟩
      rw [hwx]
      clear hwx wx dC
      go_wp2_with fail
      go_ret
      exact unhide HF
    · have hy2 : Y = -9223372036854775808 := by omega
      have HF : Hid (GdOut r w (.returned (.bool false)) w1) := ⟨⟨false, rfl, Iff.intro (fun h => by cases h) (fun h => absurd ((unhide hok).1 h).2.2.2 hy)⟩, unhide HB1⟩
      clear hok
      subst hy2
      have dC := hide (chk_no w1)
      go_wp2_with fail
      refine (unhide dC).mono ?_
      rintro e wx ⟨rfl, hwx⟩
      rw [hwx]
      clear hwx wx dC
      go_wp2_with fail
      go_ret
      exact unhide HF
  · have hno : ¬ (nb = true ∧ 1 ≤ X ∧ X ≤ 3652059 ∧ -9223372036854775807 ≤ Y) := fun h => hyes ⟨h.1, h.2.1, h.2.2.1⟩
    have HF : Hid (GdOut r w (.returned (.bool false)) w1) := ⟨⟨false, rfl, Iff.intro (fun h => by cases h) (fun h => absurd ((unhide hok).1 h) hno)⟩, unhide HB1⟩
    clear hok
    clear hno
    cases nb
    · go_wp2_with fail
      go_ret
      exact unhide HF
    · by_cases hx1 : 1 ≤ X
      · have hx2 : ¬ X ≤ 3652059 := fun h => hyes ⟨rfl, hx1, h⟩
        clear hyes
        go_wp2_with fail
        go_ret
        exact unhide HF
      · clear hyes
        go_wp2_with fail
        go_ret
        exact unhide HF
theorem tol_snoc (R : List Ro) (r : Ro) (k : List UInt8) : tol (R ++ [r]) k = if k = r.acc.data.toList then tol R r.acc.data.toList ++ [(r.day, r.amt)] else tol R k := by
  unfold tol
  rw [List.filter_append, List.map_append]
  by_cases h : k = r.acc.data.toList
  · subst h; simp
  · have h' : r.acc.data.toList ≠ k := fun e => h e.symm
    simp [h, h']
theorem zero53 (w : World) : (zeroValue 94).run Tryz.prog w = .ok (.slice none 0 0) w := by kernel_rfl
def ld24 (x : Value) : Sem Value := Instr.loadAt 74 x
theorem ld24_is (x : Value) : Instr.loadAt 74 x = ld24 x := rfl
theorem size24 : (Tryz.prog.info? 74).map (·.size) = some 9 := by kernel_rfl
theorem run_ld24 {w : World} {b o : Nat} {r : Ro} (h : w.rangeAt b o r.vals) : (ld24 (.pointer (some ⟨b, o, none⟩))).run Tryz.prog w = .ok (.agg #[.int .i64 r.i0, .int .i64 r.i1, .int .i64 r.day, .int .i64 r.i3, .string r.s4, .string r.acc, .int .i64 r.amt, .string r.s7, .string r.s8]) w :=
  run_loadAt_mid (P := Tryz.prog) w b o 74 r.vals _ h Tryz.underlying74 rfl size24
/-- an append as a step of a region that draws, by its run -/
theorem step_append_run {P : Program} {ops : Array Oper} {o : Oper} {a : Act} {K : Act → World → Prop} {Q : Exit → Act → World → Prop} {E : Prop} (w : World) (hgd : o.guard = none) (s x : Operand) (t : TypeId)
    (ho : o.op = .call { callee := .builtin .append, args := #[s, x], argTypes := #[t, t] }) (v u v' : Value) (w' : World) (hs : a.eval s = v) (hx : a.eval x = u) (hr : (Builtin.append_ #[t, t] o.type #[v, u]).run P w = .ok v' w')
    (h : K (a.put o.dst v') w') : if Region.wanted o (yielded ops a.tmps) = true then Oper.wp P o a w K Q else E := by
  have hw : Region.wanted o (yielded ops a.tmps) = true := by simp [Region.wanted, hgd]
  rw [if_pos hw]
  unfold Oper.wp execOp
  simp only [ho, resolve, invoke, builtin, Sem.run_bind, Sem.run_pure, Result.andThen_ok, List.map_toArray, List.map_cons, List.map_nil, hs, hx, hr]
  exact h
attribute [local go_sem ↓] ld24_is
/-- what byAccount keeps -/
def ByAt (w : World) (R : List Ro) (wr : World) : Prop :=
  ∃ D V, MSAt kT wr (w.heap.size + 1) w.heap.size R.length D (tol R) V ∧ Below w.heap.size w wr ∧ w.heap.size + 1 ≤ wr.heap.size
set_option maxRecDepth 100000 in
set_option maxHeartbeats 4000000 in
theorem by_any (w : World) (p : Option Addr) (N cR : Nat) (R : List Ro) (hN : R.length = N) (hN2 : N ≤ 8388608) (hR : Lies kR w p R) (hacc : ∀ r ∈ R, r.acc.size ≤ maxLen) :
    Calls Tryz.prog 74 #[.slice p N cR] w fun e w' => e = .returned (.map (some w.heap.size)) ∧ ByAt w R w' := by
  have HR := hide hR; have HA := hide hacc; have HN := hide hN
  have hmk := fun W => run_makeMap (P := Tryz.prog) 92 W
  clear hR hacc hN
  go_enter Tryz.func74, Tryz.ntmps74
  go_wp2_with fail
  go_loopw [9] (fun v wr => ∃ (j : Nat), v = .int .i64 j ∧ j ≤ N ∧ Hid (ByAt w (R.take j) wr)) (fun v _ => N - (intOf v).toNat)
  case atStart => exact ⟨0, rfl, by omega, _, _, MSAt.made (K := kT) w (w.heap.size + 1), (Below.refl _ w).alloc (Nat.le_refl _) _, by show _ ≤ (w.alloc _).heap.size; simp⟩
  case round =>
    obtain ⟨j, rfl, hj, hrel⟩ := hrel
    by_cases hlt : j < N
    · obtain ⟨D, V, hT, hB, hz⟩ := unhide hrel
      have hjR : j < R.length := by rw [unhide HN]; exact hlt
      obtain ⟨q, o, rfl, hq, hcell⟩ := (unhide HR).2 j hjR
      obtain ⟨r, hr⟩ : ∃ r, r = R[j] := ⟨_, rfl⟩
      rw [← hr] at hcell
      have hrm : r ∈ R := by rw [hr]; exact List.getElem_mem hjR
      have hld := run_ld24 (w := wr) (b := q) (o := o + j * 9) (r := r) (fun i v hv => (hB.cell (p := ⟨q, o + j * 9 + i, none⟩) hq).trans (hcell i v hv))
      obtain ⟨A, hA⟩ : ∃ A, A = Obj.cells #[.int .i64 r.i0, .int .i64 r.i1, .int .i64 r.day, .int .i64 r.i3, .string r.s4, .string r.acc, .int .i64 r.amt, .string r.s7, .string r.s8] 74 := ⟨_, rfl⟩
      obtain ⟨O1, hO1⟩ : ∃ O, O = Obj.cells #[.int .i64 r.day, .int .i64 r.amt] 181 := ⟨_, rfl⟩
      have hs := unhide HA r hrm
      have T1 := (hT.alloc A).drew
      have T2 := ((hT.alloc A).alloc O1).drew
      have hl1 := T1.look (t := 92) Tryz.underlying92 (zero53 _) hs
      have hl2 := T2.look (t := 92) Tryz.underlying92 (zero53 _) hs
      have hBW : w.heap.size + 1 ≤ (((wr.alloc A).alloc O1).drew).heap.size := by simp; omega
      have e1 : (wr.alloc A).heap.size = wr.heap.size + 1 := by simp
      have hone : Lies kT (((wr.alloc A).alloc O1).drew) (some ⟨wr.heap.size + 1, 0, none⟩) [(r.day, r.amt)] := by
        have h1 := (one_lies (K := kT) (wr.alloc A) (r.day, r.amt) 181 #[.int .i64 r.day, .int .i64 r.amt] rfl).drewN 1
        rw [← hO1, e1] at h1
        exact h1
      obtain ⟨p', c', w2, hap, ho, hb, hst, hloc⟩ := run_app kT_ok (M := [(r.day, r.amt)]) 94 (T2.row r.acc.data.toList) hBW (some ⟨wr.heap.size + 1, 0, none⟩) 1 (fun h => by cases h) hone (by have := tol_len (R.take j) r.acc.data.toList; rw [List.length_take] at this; simp; omega)
      rw [List.length_singleton] at hap ho hloc
      have hlj : (R.take j).length = j := by rw [List.length_take, unhide HN]; omega
      obtain ⟨w3, D', hup, hT3, hg3⟩ := T2.grow (t := 92) (w := w2) (L := tol (R.take j) r.acc.data.toList ++ [(r.day, r.amt)]) Tryz.underlying92 (by rw [hlj]; unfold maxLen; omega) hs (by simp) hb.size hb.os hb.tape hb.output hst (by rw [List.length_append, List.length_singleton]; exact ho) hloc
      have hfar : (V r.acc.data.toList).ownBlock ≠ some wr.heap.size := fun e => by
        have := (hT.blk e).2.1
        omega
      have hcA : w2.cell? ⟨wr.heap.size, 5, none⟩ = some (.string r.acc) := by
        refine (World.cell?_of_block (a := ⟨wr.heap.size, 5, none⟩) (hst wr.heap.size (by simp; omega) hfar)).trans ?_
        rw [hA]
        show ((wr.alloc _).alloc _).cell? _ = _
        rw [World.cell?_alloc_lt _ _ _ (by simp), World.cell?_alloc_mark]
        rfl
      have hfin : ByAt w (R.take (j + 1)) w3 := by
        have et : R.take (j + 1) = R.take j ++ [r] := by rw [List.take_succ_eq_append_getElem hjR, ← hr]
        refine ⟨D', (fun k => if k = r.acc.data.toList then .slice p' ((tol (R.take j) r.acc.data.toList).length + 1) c' else V k), ?_, ?_, ?_⟩
        · rw [et, List.length_append, List.length_singleton]
          have ef : tol (R.take j ++ [r]) = fun k => if k = r.acc.data.toList then tol (R.take j) r.acc.data.toList ++ [(r.day, r.amt)] else tol (R.take j) k := funext fun k => tol_snoc _ _ _
          rw [ef]
          exact hT3
        · have hb2 : Below w.heap.size w (((wr.alloc A).alloc O1).drew) := ((hB.alloc (by omega) A).alloc (by simp; omega) O1).drew
          refine hb2.trans (Below.trans (hb.mono (by omega)) ⟨hg3.os, hg3.tape, hg3.output, hg3.size, fun k hk => hg3.block k (by have := hb.size; omega) (fun e => ?_)⟩)
          have := Option.some.inj e
          omega
        · have := hg3.size
          have := hb.size
          omega
      have hap' : (Builtin.append_ #[94, 94] 94 #[V r.acc.data.toList, .slice (some ⟨wr.heap.size + 1, 0, none⟩) 1 1]).run Tryz.prog (((wr.alloc A).alloc O1).drew) = .ok (.slice p' ((tol (R.take j) r.acc.data.toList).length + 1) c') w2 := hap
      obtain ⟨vp, hvp⟩ : ∃ vp, vp = Value.slice p' ((tol (R.take j) r.acc.data.toList).length + 1) c' := ⟨_, rfl⟩
      rw [← hvp] at hap' hup
      have HAP := hide hap'; have HFIN := hide hfin
      clear hvp hap'
      clear hap hfin hT3 hg3 hfar hst hb ho hloc hone hBW T1 T2 hT hB hs hrm hr hcell hrel hz
      subst hA hO1
      go_wp2_with fail
      go_region_law (refine step_append_run _ rfl _ _ _ rfl _ _ _ _ rfl rfl (unhide HAP) ?_)
      all_goals go_wp2_with fail
      all_goals go_round
      all_goals first
        | exact ⟨j + 1, by simp, by omega, unhide HFIN⟩
        | (simp [intOf]; omega)
    · have hjN : j = N := by omega
      subst hjN
      have hF := unhide hrel
      rw [List.take_of_length_le (by rw [unhide HN]; omega)] at hF
      have HF := hide hF
      clear hF hrel
      go_wp2_with fail
      go_ret
      exact ⟨rfl, unhide HF⟩
end Go.Proofs.YtmgnlgobkkfjhaaGreatDoor
/- daily: ending (20), put (19). -/
namespace Go.Proofs.YtmgnlgobkkfjhaaGreatDoor
open Go Go.Shelf Go.ChangeShapes Go.WideShapes Go.ChangeAt Go.RowKit Go.Maps
set_option linter.unusedVariables false
variable {α : Type} {K : Kd α}
theorem flat_take (hK : KdOK K) (L : List α) (k : Nat) : (K.flat L).take (k * K.s) = K.flat (L.take k) := by
  by_cases hk : k ≤ L.length
  · have e : K.flat L = K.flat (L.take k) ++ K.flat (L.drop k) := by rw [← flat_append, List.take_append_drop]
    have el : k * K.s = (K.flat (L.take k)).length := by rw [flat_len hK, List.length_take, Nat.min_eq_left hk]
    rw [e, el, List.take_left]
  · rw [List.take_of_length_le (l := L) (by omega), List.take_of_length_le]
    rw [flat_len hK]
    exact Nat.mul_le_mul_right _ (by omega)
/-- the beginning of a list that a call owns -/
theorem own_prefix (hK : KdOK K) {W : World} {B n c : Nat} {p : Option Addr} {L : List α} (h : W.ownsRow B K.e K.s (.slice p n c) n (K.flat L)) {k : Nat} (hk : k ≤ n) (hn : L.length = n) : W.ownsRow B K.e K.s (.slice p k c) k (K.flat (L.take k)) := by
  refine ⟨by rw [flat_len hK, List.length_take, hn, Nat.min_eq_left hk], ?_⟩
  rcases h.2 with ⟨e, h2⟩ | ⟨g, cap, cur, e, hB, hh, hc, hm, hcs, ht⟩
  · have : k = 0 := by omega
    subst this
    subst h2
    exact .inl ⟨e, rfl⟩
  · cases e
    refine .inr ⟨g, c, cur, rfl, hB, hh, by omega, hm, hcs, ?_⟩
    rw [← flat_take hK, ← ht, List.take_take, Nat.min_eq_left (Nat.mul_le_mul_right _ hk)]
theorem step_append_runI {P : Program} {ops : Array Oper} {o : Oper} {a : Act} {K : Act → World → Prop} {Q : Exit → Act → World → Prop} {E : Prop} (w : World) (hgd : o.guard = none) (s x : Operand) (t : TypeId)
    (ho : o.op = .call { callee := .builtin .append, args := #[s, x], argTypes := #[t, t] }) (v u v' : Value) (w' : World) (hs : a.eval s = v) (hx : a.eval x = u) (hr : (Builtin.append_ #[t, t] o.type #[v, u]).run P w = .ok v' w')
    (h : K (a.put o.dst v') w') : if Region.wanted o (yielded ops a.tmps) = true then Oper.wp P o a w K Q else E := by
  have hw : Region.wanted o (yielded ops a.tmps) = true := by simp [Region.wanted, hgd]
  rw [if_pos hw]
  unfold Oper.wp execOp
  simp only [ho, resolve, invoke, builtin, Sem.run_bind, Sem.run_pure, Result.andThen_ok, List.map_toArray, List.map_cons, List.map_nil, hs, hx, hr]
  exact h
def EndOut (S R : List Mk) (st : Nat) (B : Nat) (v : Value) (W : World) (e : Ending) (w' : World) : Prop :=
  ∃ p' c', e = .returned (.slice p' (st + R.length) c') ∧ w'.ownsRow B 187 3 (.slice p' (st + R.length) c') (st + R.length) (kM.flat (S.take st ++ R)) ∧ W.heap.size ≤ w'.heap.size ∧ w'.os = W.os ∧ w'.tape = W.tape ∧ w'.output = W.output ∧ (∀ k, k < W.heap.size → v.ownBlock ≠ some k → w'.heap[k]? = W.heap[k]?) ∧ ((Value.slice p' (st + R.length) c').ownBlock = v.ownBlock ∨ ∃ g, (Value.slice p' (st + R.length) c').ownBlock = some g ∧ W.heap.size ≤ g)
set_option maxRecDepth 100000 in
set_option maxHeartbeats 4000000 in
theorem ending_any {S R : List Mk} {W : World} {B c N : Nat} {p : Option Addr} (hN : S.length = N) (hB : B ≤ W.heap.size) (hS : W.ownsRow B 187 3 (.slice p N c) N (kM.flat S)) {st : Nat} (hst : st ≤ N) (hNl : N ≤ 137438953472) {pm : Option Addr} {cm nR : Nat} (hnR : R.length = nR) (hRl : nR ≤ 274877906944) (hpm : pm = none → cm = 0) (hR : Lies kM W pm R) :
    Calls Tryz.prog 78 #[.slice p N c, .agg #[.int .i64 st, .slice pm nR cm]] W fun e w' => EndOut S R st B (.slice p N c) W e w' := by
  obtain ⟨O, hO⟩ : ∃ O, O = Obj.cells #[.int .i64 st, .slice pm nR cm] 98 := ⟨_, rfl⟩
  have hpre := own_prefix kM_ok hS hst hN
  have hb0 : Below W.heap.size W (W.alloc O) := bal (Below.refl _ _) O
  have hbd : Below W.heap.size W ((W.alloc O).drew) := hb0.drew
  obtain ⟨p', c', w', hr, ho, hb, hkeep, hloc⟩ := run_app kM_ok (W := (W.alloc O).drew) (M := R) 96 (hpre.alloc O) (by simp; omega) pm cm hpm (hR.below hbd) (by omega)
  have hnc : N ≤ c := by
    rcases hS.2 with ⟨e, h2⟩ | ⟨g, cap, cur, e, h1, h2, h3, _⟩
    · omega
    · cases e; exact h3
  have hpn : p = none → N = 0 ∧ c = 0 := fun h => by
    subst h
    rcases hS.2 with ⟨e, h2⟩ | ⟨g, cap, cur, e, h1, h2, h3, _⟩
    · cases e; exact ⟨h2, rfl⟩
    · cases e
  have hfin : EndOut S R st B (.slice p N c) W (.returned (.slice p' (st + R.length) c')) w' := by
    have hob : (Value.slice p st c).ownBlock = (Value.slice p N c).ownBlock := by cases p <;> rfl
    rw [hob] at hloc hkeep
    refine ⟨p', c', rfl, ho, Nat.le_trans hbd.size hb.size, hb.os.trans hbd.os, hb.tape.trans hbd.tape, hb.output.trans hbd.output, fun k hk hne => (hkeep k (Nat.lt_of_lt_of_le hk hbd.size) hne).trans (hbd.block k hk), ?_⟩
    rcases hloc with h | h
    · exact .inl h
    · exact .inr ⟨_, h, by simp⟩
  rw [hnR] at hr hfin
  obtain ⟨vp, hvp⟩ : ∃ vp, vp = Value.slice p' (st + nR) c' := ⟨_, rfl⟩
  have hsc : st ≤ c := by omega
  have hpo : ∀ a, p = some a → ∃ g, a = ⟨g, 0, none⟩ := fun a h => by
    subst h
    rcases hS.2 with ⟨e, h2⟩ | ⟨g, cap, cur, e, h1, h2, h3, _⟩
    · cases e
    · cases e; exact ⟨g, rfl⟩
  rw [← hvp] at hr hfin
  have HR := hide (show (Builtin.append_ #[96, 96] 96 #[.slice p st c, .slice pm nR cm]).run Tryz.prog ((W.alloc O).drew) = .ok vp w' from hr)
  have HFIN := hide hfin
  clear hr hfin hb ho hkeep hloc hbd hb0 hpre hR hS hvp
  subst hO
  cases p with
  | none =>
    obtain ⟨h1, h2⟩ := hpn rfl
    subst h1 h2
    have hs0 : st = 0 := by omega
    subst hs0
    clear hpn hpo
    go_enter Tryz.func78, Tryz.ntmps78
    go_wp2_with fail
    go_region_law (refine step_append_runI _ rfl _ _ _ rfl _ _ _ _ rfl rfl (unhide HR) ?_)
    all_goals go_wp2_with fail
    all_goals go_ret
    all_goals exact unhide HFIN
  | some a =>
    obtain ⟨g, rfl⟩ := hpo a rfl
    clear hpn hpo
    go_enter Tryz.func78, Tryz.ntmps78
    go_wp2_with fail
    go_region_law (refine step_append_runI _ rfl _ _ _ rfl _ _ _ _ rfl rfl (unhide HR) ?_)
    all_goals go_wp2_with fail
    all_goals go_ret
    all_goals exact unhide HFIN
end Go.Proofs.YtmgnlgobkkfjhaaGreatDoor
/- daily: the view in memory; put (19). -/
namespace Go.Proofs.YtmgnlgobkkfjhaaGreatDoor
open Go Go.Shelf Go.ChangeShapes Go.WideShapes Go.ChangeAt Go.RowKit Go.Maps
set_option linter.unusedVariables false
/-- the accounts: a map, or none yet -/
def AcAt (w : World) (B n : Nat) (mo : Option Nat) (F : List UInt8 → List Mk) (V : List UInt8 → Value) : Prop :=
  (mo = none ∧ (∀ k, F k = []) ∧ ∀ k, V k = .slice none 0 0) ∨ ∃ b D, mo = some b ∧ B ≤ b ∧ MSAt kM w B b n D F V
theorem AcAt.row {w : World} {B n : Nat} {mo : Option Nat} {F : List UInt8 → List Mk} {V : List UInt8 → Value} (h : AcAt w B n mo F V) (k : List UInt8) : w.ownsRow B 187 3 (V k) (F k).length (kM.flat (F k)) := by
  rcases h with ⟨_, h1, h2⟩ | ⟨b, D, _, _, h⟩
  · rw [h1, h2]; exact World.ownsRow_nil _ _ _ _
  · exact h.row k
/-- the view's cell -/
def DvAt (w : World) (B d n : Nat) (mo : Option Nat) (F : List UInt8 → List Mk) (V : List UInt8 → Value) : Prop :=
  w.heap[d]? = some (.cells #[.map mo] 80 (0, 0)) ∧ d < B ∧ AcAt w B n mo F V
theorem DvAt.c0 {w : World} {B d n : Nat} {mo : Option Nat} {F : List UInt8 → List Mk} {V : List UInt8 → Value} (h : DvAt w B d n mo F V) : w.cell? ⟨d, 0, none⟩ = some (.map mo) ∧ w.frozen? ⟨d, 0, none⟩ = false := by
  have := h.1
  simp [World.cell?, World.frozen?, this]
/-- what put leaves: the view with one name's list another one -/
def PutOut (W : World) (B d n : Nat) (mo : Option Nat) (F : List UInt8 → List Mk) (V : List UInt8 → Value) (s : List UInt8) (L : List Mk) (v : Value) (w' : World) : Prop :=
  ∃ mo', (mo' = mo ∨ mo' = some W.heap.size) ∧ DvAt w' B d (n + 1) mo' (fun k => if k = s then L else F k) (fun k => if k = s then v else V k) ∧ W.heap.size ≤ w'.heap.size ∧ w'.os = W.os ∧ w'.tape = W.tape ∧ w'.output = W.output ∧ ∀ g, g < W.heap.size → g ≠ d → mo ≠ some g → w'.heap[g]? = W.heap[g]?
theorem und46 : Tryz.prog.underlying 78 = some (.map 9 96) := Tryz.underlying78
theorem eq46 (mo : Option Nat) (w : World) : (binOp .eql 78 (.map mo) (.map none)).run Tryz.prog w = .ok (.bool mo.isNone) w := by
  simp only [binOp]
  simp [run_equal_map_nil w 78 9 96 mo und46]
set_option maxRecDepth 100000 in
set_option maxHeartbeats 4000000 in
theorem put_any0 {w0 W : World} {B d n : Nat} {mo : Option Nat} {F : List UInt8 → List Mk} {V : List UInt8 → Value} (hV0 : DvAt w0 B d n mo F V) (hd : W.heap[d]? = some (.cells #[.map mo] 80 (0, 0))) (hmb : ∀ b, mo = some b → W.heap[b]? = w0.heap[b]?) (hB : B ≤ W.heap.size) (hn : n + 1 < maxLen) {s : ByteArray} (hs : s.size ≤ maxLen) {p : Option Addr} {m c : Nat} {L : List Mk} (hm : L.length = m) (hm2 : m ≤ 1099511627776) (hv : W.ownsRow B 187 3 (.slice p m c) m (kM.flat L)) (hrw : ∀ k, k ≠ s.data.toList → W.ownsRow B 187 3 (V k) (F k).length (kM.flat (F k))) (hap : ∀ k, k ≠ s.data.toList → F k ≠ [] → (V k).ownBlock ≠ (Value.slice p m c).ownBlock) :
    Calls Tryz.prog 77 #[.pointer (some ⟨d, 0, none⟩), .string s, .slice p m c] W fun e w' => e = .returned (.tuple #[]) ∧ PutOut W B d n mo F V s.data.toList L (if L = [] then .slice none 0 0 else .slice p m c) w' := by
  have hc0 : W.cell? ⟨d, 0, none⟩ = some (.map mo) := by simp [World.cell?, hd]
  have hf0 : W.frozen? ⟨d, 0, none⟩ = false := by simp [World.frozen?, hd]
  have hdB : d < B := hV0.2.1
  by_cases hL : L = []
  · rw [if_pos hL]
    subst hL
    have hm0 : m = 0 := by simpa using hm.symm
    subst hm0
    rcases hV0.2.2 with ⟨h1, hF0, hVn⟩ | ⟨b, D, rfl, hbB, hA⟩
    · subst h1
      have hrun := Maps.drop_nil (w := W) (string_keyed Tryz.underlying9) und46 (keyM hs) 0
      have hfin : PutOut W B d n none F V s.data.toList [] (.slice none 0 0) W := by
        refine ⟨none, .inl rfl, ⟨hd, hdB, .inl ⟨rfl, fun k => ?_, fun k => ?_⟩⟩, Nat.le_refl _, rfl, rfl, rfl, fun _ _ _ _ => rfl⟩
        · by_cases e : k = s.data.toList
          · simp only [if_pos e]
          · simp only [if_neg e]; exact hF0 k
        · by_cases e : k = s.data.toList
          · simp only [if_pos e]
          · simp only [if_neg e]; exact hVn k
      have HFIN := hide hfin
      clear hfin hv hap hrw hV0
      go_enter Tryz.func77, Tryz.ntmps77
      go_wp2_with fail
      refine bodyPost_ret (v := .tuple #[]) (by simp [results, Tryz.results77]) rfl ?_
      exact ⟨rfl, unhide HFIN⟩
    · have hmapW : W.ownsMap Tryz.prog 9 sliceElem b n D := by
        obtain ⟨es, clock, hb, r⟩ := hA.map
        exact ⟨es, clock, (hmb b rfl).trans hb, r⟩
      obtain ⟨w', D', hrun, hA', hg⟩ := hA.del0 (t := 78) hmapW und46 hs hrw 0
      have hfin : PutOut W B d n (some b) F V s.data.toList [] (.slice none 0 0) w' := by
        have hbd : d ≠ b := fun e => by have := hdB; omega
        refine ⟨some b, .inl rfl, ⟨(hg.block d (Nat.lt_of_lt_of_le hdB hB) (fun e => hbd (Option.some.inj e))).trans hd, hdB, .inr ⟨b, D', rfl, hbB, ⟨hA'.map.mono (Nat.le_succ _), hA'.val, hA'.key, hA'.row, hA'.nil, hA'.apart⟩⟩⟩, hg.size, hg.os, hg.tape, hg.output, fun g hgs _ hne => hg.block g hgs (fun e => hne e.symm)⟩
      have HFIN := hide hfin
      clear hfin hA' hg hA hv hap hrw hV0
      go_enter Tryz.func77, Tryz.ntmps77
      go_wp2_with fail
      refine bodyPost_ret (v := .tuple #[]) (by simp [results, Tryz.results77]) rfl ?_
      exact ⟨rfl, unhide HFIN⟩
  · rw [if_neg hL]
    have hm1 : 0 < m := by rw [← hm]; exact List.length_pos_iff.2 hL
    rcases hV0.2.2 with ⟨rfl, hF0, hV0⟩ | ⟨b, D, rfl, hbB, hA⟩
    · obtain ⟨W1, hW1⟩ : ∃ W1, W1 = W.setCell ⟨d, 0, none⟩ (.map (some W.heap.size)) := ⟨_, rfl⟩
      obtain ⟨W2, hW2⟩ : ∃ W2, W2 = W1.alloc (.map #[] 0) := ⟨_, rfl⟩
      have hdW : d < W.heap.size := Nat.lt_of_lt_of_le hdB hB
      have hs1 : W1.heap.size = W.heap.size := by rw [hW1]; simp
      have hs2 : W2.heap.size = W.heap.size + 1 := by rw [hW2]; simp [hs1]
      have hh2 : W2.heap[d]? = some (.cells #[.map (some W.heap.size)] 80 (0, 0)) := by
        rw [hW2, Below.heap_alloc W1 _ d (by omega), hW1]
        exact (heap_setCell_same W d 0 #[.map none] 80 (.map (some W.heap.size)) hd).trans (by simp)
      have hk2 : ∀ k, k < W.heap.size → k ≠ d → W2.heap[k]? = W.heap[k]? := fun k hk hkd => by
        rw [hW2, Below.heap_alloc W1 _ k (by omega), hW1]
        exact Below.heap_setCell W ⟨d, 0, none⟩ _ k hkd
      have hM2 : MSAt kM W2 B W.heap.size n (.map []) F V := by
        have h := MSAt.made (K := kM) W1 B
        rw [← hW2, hs1] at h
        rw [show F = fun _ => [] from funext hF0, show V = fun _ => Value.slice none 0 0 from funext hV0]
        exact ⟨h.map.mono (Nat.zero_le _), h.val, h.key, h.row, h.nil, h.apart⟩
      have hv2 : W2.ownsRow B 187 3 (.slice p m c) m (kM.flat L) := by
        refine row_keep hv (fun g hg => ?_)
        have hb := row_block hv hg
        exact hk2 g hb.2.1 (by have := hdB; omega)
      obtain ⟨w', D', hrun, hA', hg⟩ := hM2.set (t := 78) und46 (by omega) hs hL (by rw [hm]; exact hv2) hap
      have hfin : PutOut W B d n none F V s.data.toList L (.slice p m c) w' := by
        refine ⟨some W.heap.size, .inr rfl, ⟨(hg.block d (by omega) (fun e => by have := Option.some.inj e; omega)).trans hh2, hdB, .inr ⟨W.heap.size, D', rfl, hB, hA'⟩⟩, by have := hg.size; omega, hg.os.trans (by rw [hW2, hW1]; first | rfl | simp), hg.tape.trans (by rw [hW2, hW1]; first | rfl | simp), hg.output.trans (by rw [hW2, hW1]; first | rfl | simp), fun g hgs hgd _ => ?_⟩
        rw [hg.block g (by omega) (fun e => by have := Option.some.inj e; omega)]
        exact hk2 g hgs hgd
      have HFIN := hide hfin
      have hq : ∀ w, (binOp .eql 78 (.map none) (.map none)).run Tryz.prog w = .ok (.bool true) w := eq46 none
      have hmk := fun W => run_makeMap (P := Tryz.prog) 78 W
      have hc2 : W2.cell? ⟨d, 0, none⟩ = some (.map (some W.heap.size)) := by simp [World.cell?, hh2]
      clear hfin hA' hg hv hap hrw hV0 hv2 hM2 hk2 hh2 hs2 hs1
      subst hW2
      subst hW1
      go_enter Tryz.func77, Tryz.ntmps77
      go_wp2_with fail
      go_end0
      exact ⟨rfl, unhide HFIN⟩
    · have hmapW : W.ownsMap Tryz.prog 9 sliceElem b n D := by
        obtain ⟨es, clock, hb, r⟩ := hA.map
        exact ⟨es, clock, (hmb b rfl).trans hb, r⟩
      obtain ⟨w', D', hrun, hA', hg⟩ := hA.set0 (t := 78) hmapW und46 (by omega) hs hL (by rw [hm]; exact hv) hrw hap
      have hfin : PutOut W B d n (some b) F V s.data.toList L (.slice p m c) w' := by
        have hbd : d ≠ b := fun e => by have := hdB; omega
        refine ⟨some b, .inl rfl, ⟨(hg.block d (Nat.lt_of_lt_of_le hdB hB) (fun e => hbd (Option.some.inj e))).trans hd, hdB, .inr ⟨b, D', rfl, hbB, hA'⟩⟩, hg.size, hg.os, hg.tape, hg.output, fun g hgs _ hne => hg.block g hgs (fun e => hne e.symm)⟩
      have HFIN := hide hfin
      have hq : ∀ w, (binOp .eql 78 (.map (some b)) (.map none)).run Tryz.prog w = .ok (.bool false) w := eq46 (some b)
      clear hfin hA' hg hA hv hap hrw hV0
      go_enter Tryz.func77, Tryz.ntmps77
      go_wp2_with fail
      go_end0
      exact ⟨rfl, unhide HFIN⟩
end Go.Proofs.YtmgnlgobkkfjhaaGreatDoor
