/- daily: rows; good (15), byAccount (16). -/
import Derived.Test.YtenoaechonpjgaaDoorDlG
import Derived.Test.YtenoaechonpjgaaDoorNamC
import Derived.Deep.RegionHeldLaw
import Derived.Deep.RegionLaw
import Derived.Deep.RegionHeld3
namespace Go.Proofs.YtenoaechonpjgaaDoor
open Go Go.Shelf Go.ChangeShapes Go.WideShapes Go.ChangeAt Go.RowKit Go.Maps
set_option linter.unusedVariables false
/-- a row's nine cells -/
structure Ro where
  i0 : Int
  i1 : Int
  day : Int
  i3 : Int
  s4 : ByteArray
  acc : ByteArray
  amt : Int
  s7 : ByteArray
  s8 : ByteArray
def Ro.vals (r : Ro) : List Value := [.int .i64 r.i0, .int .i64 r.i1, .int .i64 r.day, .int .i64 r.i3, .string r.s4, .string r.acc, .int .i64 r.amt, .string r.s7, .string r.s8]
def kR : Kd Ro := ⟨Ro.vals, 9, 22, 24, 104⟩
theorem kR_ok : KdOK kR := kd_ok (fun _ => rfl) (by decide) (fun x u hu => by simp [kR, Ro.vals] at hu; rcases hu with rfl | rfl | rfl | rfl | rfl | rfl | rfl | rfl | rfl <;> rfl) Tryd.underlying22 (z := .agg #[.int .i64 0, .int .i64 0, .int .i64 0, .int .i64 0, .string ⟨#[]⟩, .string ⟨#[]⟩, .int .i64 0, .string ⟨#[]⟩, .string ⟨#[]⟩]) (by kernel_rfl) rfl (by decide)
/-- a row that can be -/
def okR (r : Ro) : Prop := nameL r.acc.data.toList = true ∧ 1 ≤ r.day ∧ r.day ≤ 3652059 ∧ -9223372036854775807 ≤ r.amt
def GdOut (r : Ro) (w : World) (e : Ending) (w' : World) : Prop := (∃ b, e = .returned (.bool b) ∧ (b = true ↔ okR r)) ∧ Below w.heap.size w w'
set_option maxRecDepth 100000 in
set_option maxHeartbeats 1000000 in
theorem good_any (r : Ro) (hs : r.acc.size < 4611686018427387904) (hm : -9223372036854775808 ≤ r.amt) (w : World) :
    Calls Tryd.prog 15 #[.agg #[.int .i64 r.i0, .int .i64 r.i1, .int .i64 r.day, .int .i64 r.i3, .string r.s4, .string r.acc, .int .i64 r.amt, .string r.s7, .string r.s8]] w fun e w' => GdOut r w e w' := by
  obtain ⟨O, hO⟩ : ∃ O, O = Obj.cells #[.int .i64 r.i0, .int .i64 r.i1, .int .i64 r.day, .int .i64 r.i3, .string r.s4, .string r.acc, .int .i64 r.amt, .string r.s7, .string r.s8] 24 := ⟨_, rfl⟩
  have dN := hide (isAccount_any r.acc hs (w.alloc O))
  have hz : w.heap.size < (w.alloc O).heap.size := by simp
  have hcell : (w.alloc O).cell? ⟨w.heap.size, 2, none⟩ = some (.int .i64 r.day) ∧ (w.alloc O).cell? ⟨w.heap.size, 6, none⟩ = some (.int .i64 r.amt) := by
    rw [hO]
    exact ⟨by rw [World.cell?_alloc_mark]; rfl, by rw [World.cell?_alloc_mark]; rfl⟩
  have hb0 : Below w.heap.size w (w.alloc O) := bal (Below.refl _ _) O
  obtain ⟨nb, hnb⟩ : ∃ nb, nb = nameL r.acc.data.toList := ⟨_, rfl⟩
  have hok : Hid (okR r ↔ nb = true ∧ 1 ≤ r.day ∧ r.day ≤ 3652059 ∧ -9223372036854775807 ≤ r.amt) := by rw [hnb]; exact Iff.rfl
  rw [← hnb] at dN
  obtain ⟨X, hX⟩ : ∃ X, r.day = X := ⟨_, rfl⟩
  obtain ⟨Y, hY⟩ : ∃ Y, r.amt = Y := ⟨_, rfl⟩
  rw [hX, hY] at hcell hO hok
  rw [hY] at hm
  rw [hX, hY]
  have HB0 := hide hb0; have HZ := hide hz; have HC := hide hcell
  have hO' := hO
  clear hb0 hz hcell hnb hX hY hs
  subst hO
  go_enter Tryd.func15, Tryd.ntmps15
  go_wp2_with fail
  refine (unhide dN).mono ?_
  rintro e w1 ⟨rfl, hb1⟩
  have c2 := (hb1.cell (p := ⟨w.heap.size, 2, none⟩) (unhide HZ)).trans (unhide HC).1
  have c6 := (hb1.cell (p := ⟨w.heap.size, 6, none⟩) (unhide HZ)).trans (unhide HC).2
  have HB1 := hide ((unhide HB0).trans (hb1.mono (unhide HB0).size))
  clear hb1 dN
  by_cases hyes : nb = true ∧ 1 ≤ X ∧ X ≤ 3652059
  · obtain ⟨rfl, hx1, hx2⟩ := hyes
    by_cases hy : -9223372036854775807 ≤ Y
    · have HF : Hid (GdOut r w (.returned (.bool true)) w1) := ⟨⟨true, rfl, Iff.intro (fun _ => (unhide hok).2 ⟨rfl, hx1, hx2, hy⟩) (fun _ => rfl)⟩, unhide HB1⟩
      have dC := hide (chk_yes Y w1 hy)
      clear hok
      go_wp2_with fail
      refine (unhide dC).mono ?_
      rintro e wx ⟨rfl, hwx⟩
      rw [hwx]
      clear hwx wx dC
      go_wp2_with fail
      go_ret
      exact unhide HF
    · have hy2 : Y = -9223372036854775808 := by omega
      have HF : Hid (GdOut r w (.returned (.bool false)) w1) := ⟨⟨false, rfl, Iff.intro (fun h => by cases h) (fun h => absurd ((unhide hok).1 h).2.2.2 hy)⟩, unhide HB1⟩
      clear hok
      subst hy2
      have dC := hide (chk_no w1)
      go_wp2_with fail
      refine (unhide dC).mono ?_
      rintro e wx ⟨rfl, hwx⟩
      rw [hwx]
      clear hwx wx dC
      go_wp2_with fail
      go_ret
      exact unhide HF
  · have hno : ¬ (nb = true ∧ 1 ≤ X ∧ X ≤ 3652059 ∧ -9223372036854775807 ≤ Y) := fun h => hyes ⟨h.1, h.2.1, h.2.2.1⟩
    have HF : Hid (GdOut r w (.returned (.bool false)) w1) := ⟨⟨false, rfl, Iff.intro (fun h => by cases h) (fun h => absurd ((unhide hok).1 h) hno)⟩, unhide HB1⟩
    clear hok
    clear hno
    cases nb
    · go_wp2_with fail
      go_ret
      exact unhide HF
    · by_cases hx1 : 1 ≤ X
      · have hx2 : ¬ X ≤ 3652059 := fun h => hyes ⟨rfl, hx1, h⟩
        clear hyes
        go_wp2_with fail
        go_ret
        exact unhide HF
      · clear hyes
        go_wp2_with fail
        go_ret
        exact unhide HF
/-- what rows tell of an account -/
def tol (R : List Ro) (k : List UInt8) : Td := (R.filter fun r => decide (r.acc.data.toList = k)).map fun r => (r.day, r.amt)
theorem tol_snoc (R : List Ro) (r : Ro) (k : List UInt8) : tol (R ++ [r]) k = if k = r.acc.data.toList then tol R r.acc.data.toList ++ [(r.day, r.amt)] else tol R k := by
  unfold tol
  rw [List.filter_append, List.map_append]
  by_cases h : k = r.acc.data.toList
  · subst h; simp
  · have h' : r.acc.data.toList ≠ k := fun e => h e.symm
    simp [h, h']
theorem tol_len (R : List Ro) (k : List UInt8) : (tol R k).length ≤ R.length := by
  unfold tol
  rw [List.length_map]
  exact List.length_filter_le _ _
theorem tol_mem {R : List Ro} {k : List UInt8} {x : Int × Int} (h : x ∈ tol R k) : ∃ r ∈ R, r.acc.data.toList = k ∧ (r.day, r.amt) = x := by
  obtain ⟨r, hr, e⟩ := List.mem_map.1 h
  obtain ⟨h1, h2⟩ := List.mem_filter.1 hr
  exact ⟨r, h1, by simpa using h2, e⟩
theorem zero53 (w : World) : (zeroValue 53).run Tryd.prog w = .ok (.slice none 0 0) w := by kernel_rfl
def ld24 (x : Value) : Sem Value := Instr.loadAt 24 x
theorem ld24_is (x : Value) : Instr.loadAt 24 x = ld24 x := rfl
theorem size24 : (Tryd.prog.info? 24).map (·.size) = some 9 := by kernel_rfl
theorem run_ld24 {w : World} {b o : Nat} {r : Ro} (h : w.rangeAt b o r.vals) : (ld24 (.pointer (some ⟨b, o, none⟩))).run Tryd.prog w = .ok (.agg #[.int .i64 r.i0, .int .i64 r.i1, .int .i64 r.day, .int .i64 r.i3, .string r.s4, .string r.acc, .int .i64 r.amt, .string r.s7, .string r.s8]) w :=
  run_loadAt_mid (P := Tryd.prog) w b o 24 r.vals _ h Tryd.underlying24 rfl size24
/-- an append as a step of a region that draws, by its run -/
theorem step_append_run {P : Program} {ops : Array Oper} {o : Oper} {a : Act} {K : Act → World → Prop} {Q : Exit → Act → World → Prop} {E : Prop} (w : World) (hgd : o.guard = none) (s x : Operand) (t : TypeId)
    (ho : o.op = .call { callee := .builtin .append, args := #[s, x], argTypes := #[t, t] }) (v u v' : Value) (w' : World) (hs : a.eval s = v) (hx : a.eval x = u) (hr : (Builtin.append_ #[t, t] o.type #[v, u]).run P w = .ok v' w')
    (h : K (a.put o.dst v') w') : if Region.wanted o (yielded ops a.tmps) = true then Oper.wp P o a w K Q else E := by
  have hw : Region.wanted o (yielded ops a.tmps) = true := by simp [Region.wanted, hgd]
  rw [if_pos hw]
  unfold Oper.wp execOp
  simp only [ho, resolve, invoke, builtin, Sem.run_bind, Sem.run_pure, Result.andThen_ok, List.map_toArray, List.map_cons, List.map_nil, hs, hx, hr]
  exact h
attribute [local go_sem ↓] ld24_is
/-- what byAccount keeps -/
def ByAt (w : World) (R : List Ro) (wr : World) : Prop :=
  ∃ D V, MSAt kT wr (w.heap.size + 1) w.heap.size R.length D (tol R) V ∧ Below w.heap.size w wr ∧ w.heap.size + 1 ≤ wr.heap.size
set_option maxRecDepth 100000 in
set_option maxHeartbeats 4000000 in
theorem by_any (w : World) (p : Option Addr) (N cR : Nat) (R : List Ro) (hN : R.length = N) (hN2 : N ≤ 8388608) (hR : Lies kR w p R) (hacc : ∀ r ∈ R, r.acc.size ≤ maxLen) :
    Calls Tryd.prog 16 #[.slice p N cR] w fun e w' => e = .returned (.map (some w.heap.size)) ∧ ByAt w R w' := by
  have HR := hide hR; have HA := hide hacc; have HN := hide hN
  have hmk := fun W => run_makeMap (P := Tryd.prog) 51 W
  clear hR hacc hN
  go_enter Tryd.func16, Tryd.ntmps16
  go_wp2_with fail
  go_loopw [9] (fun v wr => ∃ (j : Nat), v = .int .i64 j ∧ j ≤ N ∧ Hid (ByAt w (R.take j) wr)) (fun v _ => N - (intOf v).toNat)
  case atStart => exact ⟨0, rfl, by omega, _, _, MSAt.made (K := kT) w (w.heap.size + 1), (Below.refl _ w).alloc (Nat.le_refl _) _, by show _ ≤ (w.alloc _).heap.size; simp⟩
  case round =>
    obtain ⟨j, rfl, hj, hrel⟩ := hrel
    by_cases hlt : j < N
    · obtain ⟨D, V, hT, hB, hz⟩ := unhide hrel
      have hjR : j < R.length := by rw [unhide HN]; exact hlt
      obtain ⟨q, o, rfl, hq, hcell⟩ := (unhide HR).2 j hjR
      obtain ⟨r, hr⟩ : ∃ r, r = R[j] := ⟨_, rfl⟩
      rw [← hr] at hcell
      have hrm : r ∈ R := by rw [hr]; exact List.getElem_mem hjR
      have hld := run_ld24 (w := wr) (b := q) (o := o + j * 9) (r := r) (fun i v hv => (hB.cell (p := ⟨q, o + j * 9 + i, none⟩) hq).trans (hcell i v hv))
      obtain ⟨A, hA⟩ : ∃ A, A = Obj.cells #[.int .i64 r.i0, .int .i64 r.i1, .int .i64 r.day, .int .i64 r.i3, .string r.s4, .string r.acc, .int .i64 r.amt, .string r.s7, .string r.s8] 24 := ⟨_, rfl⟩
      obtain ⟨O1, hO1⟩ : ∃ O, O = Obj.cells #[.int .i64 r.day, .int .i64 r.amt] 74 := ⟨_, rfl⟩
      have hs := unhide HA r hrm
      have T1 := (hT.alloc A).drew
      have T2 := ((hT.alloc A).alloc O1).drew
      have hl1 := T1.look (t := 51) Tryd.underlying51 (zero53 _) hs
      have hl2 := T2.look (t := 51) Tryd.underlying51 (zero53 _) hs
      have hBW : w.heap.size + 1 ≤ (((wr.alloc A).alloc O1).drew).heap.size := by simp; omega
      have e1 : (wr.alloc A).heap.size = wr.heap.size + 1 := by simp
      have hone : Lies kT (((wr.alloc A).alloc O1).drew) (some ⟨wr.heap.size + 1, 0, none⟩) [(r.day, r.amt)] := by
        have h1 := (one_lies (K := kT) (wr.alloc A) (r.day, r.amt) 74 #[.int .i64 r.day, .int .i64 r.amt] rfl).drewN 1
        rw [← hO1, e1] at h1
        exact h1
      obtain ⟨p', c', w2, hap, ho, hb, hst, hloc⟩ := run_app kT_ok (M := [(r.day, r.amt)]) 53 (T2.row r.acc.data.toList) hBW (some ⟨wr.heap.size + 1, 0, none⟩) 1 (fun h => by cases h) hone (by have := tol_len (R.take j) r.acc.data.toList; rw [List.length_take] at this; simp; omega)
      rw [List.length_singleton] at hap ho hloc
      have hlj : (R.take j).length = j := by rw [List.length_take, unhide HN]; omega
      obtain ⟨w3, D', hup, hT3, hg3⟩ := T2.grow (t := 51) (w := w2) (L := tol (R.take j) r.acc.data.toList ++ [(r.day, r.amt)]) Tryd.underlying51 (by rw [hlj]; unfold maxLen; omega) hs (by simp) hb.size hb.os hb.tape hb.output hst (by rw [List.length_append, List.length_singleton]; exact ho) hloc
      have hfar : (V r.acc.data.toList).ownBlock ≠ some wr.heap.size := fun e => by
        have := (hT.blk e).2.1
        omega
      have hcA : w2.cell? ⟨wr.heap.size, 5, none⟩ = some (.string r.acc) := by
        refine (World.cell?_of_block (a := ⟨wr.heap.size, 5, none⟩) (hst wr.heap.size (by simp; omega) hfar)).trans ?_
        rw [hA]
        show ((wr.alloc _).alloc _).cell? _ = _
        rw [World.cell?_alloc_lt _ _ _ (by simp), World.cell?_alloc_mark]
        rfl
      have hfin : ByAt w (R.take (j + 1)) w3 := by
        have et : R.take (j + 1) = R.take j ++ [r] := by rw [List.take_succ_eq_append_getElem hjR, ← hr]
        refine ⟨D', (fun k => if k = r.acc.data.toList then .slice p' ((tol (R.take j) r.acc.data.toList).length + 1) c' else V k), ?_, ?_, ?_⟩
        · rw [et, List.length_append, List.length_singleton]
          have ef : tol (R.take j ++ [r]) = fun k => if k = r.acc.data.toList then tol (R.take j) r.acc.data.toList ++ [(r.day, r.amt)] else tol (R.take j) k := funext fun k => tol_snoc _ _ _
          rw [ef]
          exact hT3
        · have hb2 : Below w.heap.size w (((wr.alloc A).alloc O1).drew) := ((hB.alloc (by omega) A).alloc (by simp; omega) O1).drew
          refine hb2.trans (Below.trans (hb.mono (by omega)) ⟨hg3.os, hg3.tape, hg3.output, hg3.size, fun k hk => hg3.block k (by have := hb.size; omega) (fun e => ?_)⟩)
          have := Option.some.inj e
          omega
        · have := hg3.size
          have := hb.size
          omega
      have hap' : (Builtin.append_ #[53, 53] 53 #[V r.acc.data.toList, .slice (some ⟨wr.heap.size + 1, 0, none⟩) 1 1]).run Tryd.prog (((wr.alloc A).alloc O1).drew) = .ok (.slice p' ((tol (R.take j) r.acc.data.toList).length + 1) c') w2 := hap
      obtain ⟨vp, hvp⟩ : ∃ vp, vp = Value.slice p' ((tol (R.take j) r.acc.data.toList).length + 1) c' := ⟨_, rfl⟩
      rw [← hvp] at hap' hup
      have HAP := hide hap'; have HFIN := hide hfin
      clear hvp hap'
      clear hap hfin hT3 hg3 hfar hst hb ho hloc hone hBW T1 T2 hT hB hs hrm hr hcell hrel hz
      subst hA hO1
      go_wp2_with fail
      go_region_law (refine step_append_run _ rfl _ _ _ rfl _ _ _ _ rfl rfl (unhide HAP) ?_)
      all_goals go_wp2_with fail
      all_goals go_round
      all_goals first
        | exact ⟨j + 1, by simp, by omega, unhide HFIN⟩
        | (simp [intOf]; omega)
    · have hjN : j = N := by omega
      subst hjN
      have hF := unhide hrel
      rw [List.take_of_length_le (by rw [unhide HN]; omega)] at hF
      have HF := hide hF
      clear hF hrel
      go_wp2_with fail
      go_ret
      exact ⟨rfl, unhide HF⟩
end Go.Proofs.YtenoaechonpjgaaDoor
