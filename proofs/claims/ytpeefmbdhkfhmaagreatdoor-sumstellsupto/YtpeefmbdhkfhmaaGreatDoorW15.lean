import Derived.Test.YtpeefmbdhkfhmaaGreatDoorW12
import Derived.Test.YtpeefmbdhkfhmaaGreatDoorW14
import Derived.RangeFuncFrom
import Derived.RangeFuncNested
/- sums: Apply (8). -/
namespace Go.Proofs.YtpeefmbdhkfhmaaGreatDoor
open Go Go.RowKit Go.Shelf Go.ChangeShapes Go.WideShapes Go.ChangeAt Go.Maps
set_option linter.unusedVariables false
attribute [local go_sem] Oper.semAt_some
attribute [local go_sem ↓] ld35_is
/-- rows that can be -/
def okRow (r : Ro) : Prop := nameL r.acc.data.toList = true ∧ isA r.amt
theorem SumsAt.set2 {w : World} {d : Nat} {mo mr : Option Nat} {n : Nat} {f g : List UInt8 → Int} {a c : Int} (h : SumsAt w d mo mr n f g a c) (a' c' : Int) :
    SumsAt ((w.setCell ⟨d, 2, none⟩ (.int .i64 a')).setCell ⟨d, 3, none⟩ (.int .i64 c')) d mo mr n f g a' c' ∧ Fr (Blk d mo mr) w ((w.setCell ⟨d, 2, none⟩ (.int .i64 a')).setCell ⟨d, 3, none⟩ (.int .i64 c')) := by
  have hb : ∀ k, k ≠ d → ((w.setCell ⟨d, 2, none⟩ (.int .i64 a')).setCell ⟨d, 3, none⟩ (.int .i64 c')).heap[k]? = w.heap[k]? := fun k hk => (Below.heap_setCell _ ⟨d, 3, none⟩ _ k hk).trans (Below.heap_setCell _ ⟨d, 2, none⟩ _ k hk)
  have o : ∀ i j : Nat, i ≠ j → (⟨d, i, none⟩ : Addr) ≠ ⟨d, j, none⟩ := fun i j hij e => hij (by injection e)
  have e3 : (w.setCell ⟨d, 2, none⟩ (.int .i64 a')).cell? ⟨d, 3, none⟩ = some (.int .i64 c) := (World.cell?_setCell_other _ _ _ _ (o 2 3 (by omega))).trans h.c3
  refine ⟨⟨?_, ?_, ?_, World.cell?_setCell_same _ _ _ e3, fun j => ?_, h.own.block (fun b e => hb b (h.d0 b e).symm), h.rol.block (fun b e => hb b (h.d1 b e).symm), h.d0, h.d1, h.ab⟩, ⟨rfl, rfl, rfl, by simp, fun k _ hk => hb k (fun e => hk (.inl e))⟩⟩
  · exact (World.cell?_setCell_other _ _ _ _ (o 3 0 (by omega))).trans ((World.cell?_setCell_other _ _ _ _ (o 2 0 (by omega))).trans h.c0)
  · exact (World.cell?_setCell_other _ _ _ _ (o 3 1 (by omega))).trans ((World.cell?_setCell_other _ _ _ _ (o 2 1 (by omega))).trans h.c1)
  · exact (World.cell?_setCell_other _ _ _ _ (o 3 2 (by omega))).trans (World.cell?_setCell_same _ _ _ h.c2)
  · rw [World.frozen?_setCell, World.frozen?_setCell]; exact h.fz j
theorem wrap_id {E : TypeId} {w : World} {mo : Option Nat} {n : Nat} {f : List UInt8 → Int} (h : MapAt E w mo n f) (k : List UInt8) : IntKind.i64.wrap (f k) = f k := by
  have h1 := h.wf k
  have e1 : IntKind.i64.min = -9223372036854775808 := by decide
  have e2 : IntKind.i64.max = 9223372036854775807 := by decide
  simp [Lit.wf, e1, e2] at h1
  rw [IntKind.wrap_i64]
  omega
theorem path_le (s : ByteArray) {x : List UInt8} (h : x ∈ pathL s.data.toList) : x.length ≤ s.size := by
  unfold pathL at h
  have hs : s.data.toList.length = s.size := rfl
  split at h
  · rcases List.mem_cons.1 h with rfl | h
    · omega
    · obtain ⟨j, _, rfl⟩ := mem_ups.1 h
      rw [List.length_take]
      omega
  · cases h
def mk8 (D : Nat) : Deferred := { target := .collected D, args := #[] }
theorem SumsAt.drew {w : World} {d : Nat} {mo mr : Option Nat} {n : Nat} {f g : List UInt8 → Int} {a c : Int} (h : SumsAt w d mo mr n f g a c) : SumsAt w.drew d mo mr n f g a c := h.block (fun _ _ => rfl)
theorem Fr.drew {S : Nat → Prop} {w w' : World} (h : Fr S w w') : Fr S w w'.drew := ⟨h.os, h.tape, h.output, h.size, h.block⟩
theorem Va.drew {w0 W : World} {d : Nat} {m0 r0 : Option Nat} {n : Nat} {f g : List UInt8 → Int} {a c : Int} (h : Va w0 d m0 r0 n f g a c W) : Va w0 d m0 r0 n f g a c W.drew := by
  obtain ⟨mo, mr, h1, h2, h3⟩ := h
  exact ⟨mo, mr, h1.drew, h2.drew, h3⟩
theorem leaves_all {F : Fence} {n : Nat} {P : Program} {fn : Func} {tmps : Array Value} {R : Ending → World → Prop} {v : Value} (hres : ∀ W, (results fn tmps).run P W = .ok v W) {B : Nat} {I : Unit → World → Prop} (hI : OwnL B I) (hR : ∀ W, I () W → R (.returned v) W) : ∀ (ds : List Nat) (W : World), I () W → ds.Nodup → (∀ D ∈ ds, B ≤ D ∧ W.heap[D]? = some (.deferred (some []))) → LeavesInM F n P fn tmps R (ds.map mk8) .returning W
  | [], W, hi, _, _ => ⟨v, hres W, hR W hi⟩
  | D :: ds, W, hi, hn, hd => by
    rw [List.nodup_cons] at hn
    have hD := hd D (List.mem_cons_self ..)
    refine ⟨by simp, .inl ⟨D, W.putObj D (.deferred none), rfl, run_takeDeferred hD.2, leaves_all hres hI hR ds _ (hI.putObj _ hi hD.1 hD.2 rfl) hn.2 (fun D' h => ?_)⟩⟩
    have h' := hd D' (List.mem_cons_of_mem _ h)
    exact ⟨h'.1, (World.putObj_heap_other (fun e => hn.1 (by first | (rw [← e]; exact h) | (rw [e]; exact h)))).trans h'.2⟩
theorem cell_turn {W W' : World} {row : Option Nat} {q o : Nat} {v : Value} (hc : W.cell? ⟨q, o, none⟩ = some v) (hg : W.grownBy W' row) (hr : ∀ r, row = some r → ∃ o : Obj, W.heap[r]? = some o ∧ lpy o = true) : W'.cell? ⟨q, o, none⟩ = some v := by
  refine (World.cell?_of_block (a := ⟨q, o, none⟩) (hg.block q (World.block_lt_of_cell? W _ hc) (fun e => ?_))).trans hc
  obtain ⟨ob, h1, h2⟩ := hr q e.symm
  unfold World.cell? at hc
  simp only [h1] at hc
  cases ob <;> simp_all [lpy]
theorem wrap_add (x y : Int) : IntKind.i64.wrap (IntKind.i64.wrap x + y) = IntKind.i64.wrap (x + y) := by
  simp only [IntKind.wrap_i64]
  omega
def apP (g : List UInt8 → Int) (R : List Ro) (i : Nat) (x : Int) (pre : List (List UInt8)) : List UInt8 → Int := fun k => IntKind.i64.wrap (g k + roll ups (rws (R.take i)) k + if k ∈ pre then x else 0)
theorem apP_step (g : List UInt8 → Int) (R : List Ro) (i : Nat) (x : Int) (pre : List (List UInt8)) {s : List UInt8} (hs : s ∉ pre) : upd (apP g R i x pre) s (IntKind.i64.wrap (apP g R i x pre s + x)) = apP g R i x (pre ++ [s]) := by
  funext k
  unfold upd apP
  by_cases e : k = s
  · subst e
    rw [if_pos rfl, if_neg hs, if_pos (by simp), wrap_add]
    congr 1
    omega
  · rw [if_neg e]
    congr 2
    simp [e]
def apF (f : List UInt8 → Int) (R : List Ro) (i : Nat) : List UInt8 → Int := fun k => IntKind.i64.wrap (f k + own (rws (R.take i)) k)
def apG (g : List UInt8 → Int) (R : List Ro) (i : Nat) : List UInt8 → Int := fun k => IntKind.i64.wrap (g k + roll ups (rws (R.take i)) k)
theorem apF_step (f : List UInt8 → Int) (R : List Ro) (i : Nat) (hi : i < R.length) : upd (apF f R i) (R[i]).acc.data.toList (IntKind.i64.wrap (apF f R i (R[i]).acc.data.toList + (R[i]).amt)) = apF f R (i + 1) := by
  funext k
  unfold upd apF
  rw [take_snoc R i hi, rws_append, own_append]
  have e1 : own (rws [R[i]]) k = if (R[i]).acc.data.toList = k then (R[i]).amt else 0 := by simp [rws, own, sm, Ro.row]
  rw [e1]
  by_cases e : k = (R[i]).acc.data.toList
  · subst e
    rw [if_pos rfl, if_pos rfl, wrap_add]
    congr 1
    omega
  · rw [if_neg e, if_neg (fun h => e h.symm)]
    congr 1
    omega
theorem apP_nil (g : List UInt8 → Int) (R : List Ro) (i : Nat) (x : Int) : apP g R i x [] = apG g R i := by
  funext k
  simp [apP, apG]
theorem apP_all (g : List UInt8 → Int) (R : List Ro) (i : Nat) (hi : i < R.length) : apP g R i (R[i]).amt ((R[i]).acc.data.toList :: ups (R[i]).acc.data.toList) = apG g R (i + 1) := by
  funext k
  unfold apP apG
  rw [take_snoc R i hi, rws_append, roll_append]
  have e1 : roll ups (rws [R[i]]) k = if k ∈ (R[i]).acc.data.toList :: ups (R[i]).acc.data.toList then (R[i]).amt else 0 := by simp [rws, roll, sm, Ro.row]
  rw [e1]
  congr 1
  omega
/-- between two rows -/
structure ApRel (w : World) (d : Nat) (m0 r0 : Option Nat) (n : Nat) (f g : List UInt8 → Int) (a c : Int) (R : List Ro) (i : Nat) (ds : List Nat) (W : World) : Prop where
  va : Va w d m0 r0 (n + 7 * i) (apF f R i) (apG g R i) a c W
  box : W.cell? ⟨w.heap.size, 0, none⟩ = some (.pointer (some ⟨d, 0, none⟩))
  sz : w.heap.size + 1 ≤ W.heap.size
  nd : ds.Nodup
  lp : ∀ D ∈ ds, w.heap.size < D ∧ W.heap[D]? = some (.deferred (some []))
theorem ApRel.own {w : World} {d : Nat} {m0 r0 : Option Nat} {n : Nat} {f g : List UInt8 → Int} {a c : Int} : OwnL w.heap.size (fun (_ : Unit) W => Va w d m0 r0 n f g a c W) := fun _ W W' row h hg hr => h.turn hg hr
/-- what Apply answers -/
def ApOut (w : World) (d : Nat) (m0 r0 : Option Nat) (n : Nat) (f g : List UInt8 → Int) (a c : Int) (R : List Ro) (e : Ending) (w' : World) : Prop :=
  ((¬ ∀ r ∈ R, okRow r) ∧ e = .returned (.int .i64 1) ∧ Below w.heap.size w w') ∨
  ((∀ r ∈ R, okRow r) ∧ ¬ twOK f (rws R) a c ∧ e = .returned (.int .i64 11) ∧ Below w.heap.size w w') ∨
  ((∀ r ∈ R, okRow r) ∧ twOK f (rws R) a c ∧ e = .returned (.int .i64 0) ∧
    Va w d m0 r0 (n + 7 * R.length) (fun k => IntKind.i64.wrap (f k + own (rws R) k)) (fun k => IntKind.i64.wrap (g k + roll ups (rws R) k)) (a + sm (fun k => pos (newV f (rws R) k) - pos (f k)) (nub ((rws R).map (·.1)))) (c + sm (fun k => neg (newV f (rws R) k) - neg (f k)) (nub ((rws R).map (·.1)))) w')
theorem box_new (w : World) (v : Value) (t : TypeId) : (w.alloc (.cells #[v] t)).cell? ⟨w.heap.size, 0, none⟩ = some v := by rw [World.cell?_alloc_mark]; rfl
set_option maxRecDepth 100000 in
set_option maxHeartbeats 4000000 in
theorem apply_any (d : Nat) (m0 r0 : Option Nat) (n : Nat) (f g : List UInt8 → Int) (a c : Int) (w : World) (hS : SumsAt w d m0 r0 n f g a c) (hf : ∀ k, isA (f k)) (ha : isA a) (hc : isA c) (p : Option Addr) (N cR : Nat) (R : List Ro) (hN : R.length = N) (hN2 : N ≤ 8388608) (hnn : n ≤ 1152921504606846976) (hR : RowsAt w p R) (hpd : ∀ q, p = some ⟨q, 0, none⟩ → q ≠ d)
    (hacc : ∀ r ∈ R, r.acc.size < 4611686018427387904) (hamt : ∀ r ∈ R, -9223372036854775808 ≤ r.amt ∧ r.amt ≤ 9223372036854775807) :
    Calls Tryz.prog 16 #[.pointer (some ⟨d, 0, none⟩), .slice p N cR] w fun e w' => ApOut w d m0 r0 n f g a c R e w' := by
  have HS := hide hS; have HR := hide hR; have HPD := hide hpd; have HNN := hide hnn; have HA := hide hacc; have HM := hide hamt; have Hf := hide hf; have Ha := hide ha; have Hc := hide hc
  have hdw : d < w.heap.size := World.block_lt_of_cell? w _ hS.c0
  clear hS hR hacc hamt hf ha hc hpd
  refine (callsIn_wide (n := 4)).1 ?_
  refine callsIn_of_wp_marks Tryz.func16 rfl trivial ?_ rfl
  simp only [Tryz.ntmps16, List.size_toArray, List.length_cons, List.length_nil, Nat.reduceAdd, Nat.reduceSub, Array.replicate_succ, Array.replicate_zero, List.push_toArray, List.append_toArray, List.nil_append, List.cons_append]
  gi_wp2_with fail
  gi_loopw [15] (fun v wr => ∃ (j : Nat), v = .int .i64 j ∧ j ≤ N ∧ Hid (∀ i (hi : i < R.length), i < j → okRow R[i]) ∧ Hid (Below w.heap.size w wr) ∧ wr.cell? ⟨w.heap.size, 0, none⟩ = some (.pointer (some ⟨d, 0, none⟩)) ∧ Hid (w.heap.size + 1 ≤ wr.heap.size)) (fun v _ => N - (intOf v).toNat)
  case atStart => exact ⟨0, rfl, by omega, fun i hi h => by omega, (Below.refl _ w).alloc (Nat.le_refl _) _, box_new _ _ _, by show _ ≤ (w.alloc _).heap.size; simp⟩
  case round =>
    obtain ⟨j, rfl, hj, hok, hB, hbox, hz⟩ := hrel
    by_cases hlt : j < N
    · have hjR : j < R.length := by omega
      obtain ⟨q, rfl, hq, hcell⟩ := unhide HR j hjR
      obtain ⟨r, hr⟩ : ∃ r, r = R[j] := ⟨_, rfl⟩
      rw [← hr] at hcell
      have hrm : r ∈ R := by rw [hr]; exact List.getElem_mem hjR
      have hld := run_ld35 (w := wr) (g := q) (k := j) (r := r) (fun i v hv => (Below.cell (unhide hB) (p := ⟨q, j * 9 + i, none⟩) hq).trans (hcell i v hv))
      have dG := hide (good_any r.acc (unhide HA r hrm))
      have hm := unhide HM r hrm
      have HRr := hide hr
      clear hcell hrm hr
      have hcA6 : ∀ W, Below (wr.heap.size + 1) (wr.alloc (.cells #[.int .i64 r.i0, .int .i64 r.i1, .int .i64 r.i2, .int .i64 r.i3, .string r.s4, .string r.acc, .int .i64 r.amt, .string r.s7, .string r.s8] 74)) W → W.cell? ⟨wr.heap.size, 6, none⟩ = some (.int .i64 r.amt) := fun W hW => by
        refine (hW.cell (p := ⟨wr.heap.size, 6, none⟩) (by show wr.heap.size < wr.heap.size + 1; omega)).trans ?_
        rw [World.cell?_alloc_mark]
        rfl
      have hbA : Hid (Below w.heap.size w (wr.alloc (.cells #[.int .i64 r.i0, .int .i64 r.i1, .int .i64 r.i2, .int .i64 r.i3, .string r.s4, .string r.acc, .int .i64 r.amt, .string r.s7, .string r.s8] 74))) := (unhide hB).alloc (by have := unhide hz; omega) _
      have hbxA := hide ((World.cell?_alloc_lt wr (.cells #[.int .i64 r.i0, .int .i64 r.i1, .int .i64 r.i2, .int .i64 r.i3, .string r.s4, .string r.acc, .int .i64 r.amt, .string r.s7, .string r.s8] 74) ⟨w.heap.size, 0, none⟩ (by have := unhide hz; show w.heap.size < wr.heap.size; omega)).trans hbox)
      gi_wp2_with fail
      refine ⟨trivial, ?_⟩
      refine (callsIn_wide.2 (unhide dG _)).mono ?_
      rintro e w1 ⟨rfl, hb1⟩
      rw [World.size_alloc] at hb1
      have hc6 := hcA6 w1 hb1
      have hbx1 : w1.cell? ⟨w.heap.size, 0, none⟩ = some (.pointer (some ⟨d, 0, none⟩)) := (hb1.cell (p := ⟨w.heap.size, 0, none⟩) (by have := unhide hz; show w.heap.size < wr.heap.size + 1; omega)).trans (unhide hbxA)
      have hB1 : Hid (Below w.heap.size w w1) := (unhide hbA).trans (hb1.mono (by have := unhide hz; omega))
      have hz1 : Hid (w.heap.size + 1 ≤ w1.heap.size) := by
        show _ ≤ _
        have h1 := hb1.size
        have h2 := unhide hz
        rw [World.size_alloc] at h1
        omega
      clear hb1 hcA6 hbA hbxA
      by_cases hnm : nameL r.acc.data.toList = true
      · rw [hnm]
        by_cases hmin : r.amt = -9223372036854775808
        · have HBAD : Hid (¬ ∀ r ∈ R, okRow r) := fun h => by
            have h1 := (h r (by rw [unhide HRr]; exact List.getElem_mem hjR)).2
            rw [hmin] at h1
            exact absurd h1.1 (by omega)
          have dC := hide chk_no
          rw [hmin] at hc6
          clear hmin hnm hm
          gi_wp2_with fail
          refine ⟨trivial, ?_⟩
          refine (callsIn_wide.2 (unhide dC _)).mono ?_
          rintro e w2 ⟨rfl, hw⟩
          rw [hw]
          clear hw
          gi_wp2
          exact ⟨_, results_tmp rfl _ _ _, .inl ⟨unhide HBAD, rfl, unhide hB1⟩⟩
        · have dC := hide (fun W => chk_yes r.amt W (by omega))
          have HOK := hide (And.intro hnm (show isA r.amt from ⟨by omega, hm.2⟩))
          clear hmin hnm hm
          gi_wp2_with fail
          refine ⟨trivial, ?_⟩
          refine (callsIn_wide.2 (unhide dC _)).mono ?_
          rintro e w2 ⟨rfl, hw⟩
          rw [hw]
          clear hw
          gi_wp2
          refine ⟨⟨j + 1, by simp, by omega, fun i hi h => ?_, unhide hB1, hbx1, unhide hz1⟩, by simp [intOf]; omega⟩
          by_cases e : i = j
          · subst e
            rw [← unhide HRr]
            exact unhide HOK
          · exact unhide hok i hi (by omega)
      · have hnm' : nameL r.acc.data.toList = false := by simpa using hnm
        rw [hnm']
        have HBAD : Hid (¬ ∀ r ∈ R, okRow r) := fun h => hnm (h r (by rw [unhide HRr]; exact List.getElem_mem hjR)).1
        clear hnm hnm'
        gi_wp2_with fail
        refine ⟨trivial, ?_⟩
        gi_wp2
        exact ⟨_, results_tmp rfl _ _ _, .inl ⟨unhide HBAD, rfl, unhide hB1⟩⟩
    · have hjN : j = N := by omega
      subst hjN
      have HOK : Hid (∀ r ∈ R, okRow r) := fun r hr => by
        obtain ⟨i, hi, rfl⟩ := List.mem_iff_getElem.1 hr
        exact unhide hok i hi (by omega)
      clear hlt hj hok
      have dT := hide (totals_any20 d m0 r0 n f g a c wr ((unhide HS).below (unhide hB)) (unhide Hf) (unhide Ha) (unhide Hc) p j cR R hN hN2 ((unhide HR).below (Nat.le_refl _) (unhide hB)) (fun r hr => by have := unhide HA r hr; unfold maxLen; omega) (fun r hr => (unhide HOK r hr).2))
      gi_wp2_with fail
      refine ⟨trivial, ?_⟩
      refine (callsIn_wide.2 (unhide dT)).mono ?_
      rintro e w1 ⟨hO, hb1⟩
      have hb1' : Below w.heap.size w w1 := (unhide hB).trans (hb1.mono (unhide hB).size)
      have hbx1 : w1.cell? ⟨w.heap.size, 0, none⟩ = some (.pointer (some ⟨d, 0, none⟩)) := (hb1.cell (p := ⟨w.heap.size, 0, none⟩) (by have := unhide hz; show w.heap.size < wr.heap.size; omega)).trans hbox
      have hz1 : Hid (w.heap.size + 1 ≤ w1.heap.size) := Nat.le_trans (unhide hz) hb1.size
      have HB1 := hide hb1'
      clear hb1 hb1' hbox dT hz hB
      rcases hO with ⟨hok, rfl⟩ | ⟨hno, x, y, rfl⟩
      · have HTW := hide hok
        clear hok
        obtain ⟨a', ha'⟩ : ∃ q, q = a + sm (fun k => pos (newV f (rws R) k) - pos (f k)) (nub ((rws R).map (·.1))) := ⟨_, rfl⟩
        obtain ⟨c', hc'⟩ : ∃ q, q = c + sm (fun k => neg (newV f (rws R) k) - neg (f k)) (nub ((rws R).map (·.1))) := ⟨_, rfl⟩
        rw [← ha', ← hc']
        have HA' := hide ha'; have HC' := hide hc'
        clear ha' hc'
        gi_wp2_with fail
        have hS1 := (unhide HS).below (unhide HB1)
        have h2 := hS1.c2
        have h3 := hS1.c3
        have z2 := hS1.fz 2
        have z3 := hS1.fz 3
        have HS1 := hide hS1
        clear hS1
        refine wpIn_mono (Q := Exit.then (fun b' w' => b' = { tmps := #[Value.pointer (some { block := d, off := 0 }), Value.slice p j cR, Value.pointer (some { block := w.heap.size, off := 0 }), undef, u4, undef, u6, Value.int IntKind.i64 a', Value.int IntKind.i64 c', Value.int IntKind.i64 0, undef, undef, undef, Value.slice p j cR, Value.int IntKind.i64 j, Value.int IntKind.i64 j, Value.bool false, u17, u18, u19, u20, u21, u22, u23, u24, u25, u26, u27, u28, u29, Value.tuple #[Value.int IntKind.i64 a', Value.int IntKind.i64 c', Value.int IntKind.i64 0], Value.pointer (some { block := d, off := 0 }), Value.slice p j cR, Value.tuple #[Value.int IntKind.i64 a', Value.int IntKind.i64 c', Value.int IntKind.i64 0], Value.int IntKind.i64 a', Value.int IntKind.i64 c', Value.int IntKind.i64 0, Value.int IntKind.i64 0, Value.bool false, undef, Value.pointer (some { block := d, off := 0 }), Value.pointer (some { block := d, off := 0 }), Value.int IntKind.i64 a', Value.int IntKind.i64 c', Value.pointer (some { block := d, off := 0 }), Value.pointer (some { block := d, off := 2 }), Value.pointer (some { block := d, off := 0 }), Value.pointer (some { block := d, off := 3 }), undef, undef, undef, undef, undef, undef, undef, undef, undef, undef, undef, undef, undef, undef, undef, undef, undef, undef, undef, undef, undef, undef, undef, undef, undef, undef], defers := [] } ∧ Hid (SumsAt w' d m0 r0 n f g a' c' ∧ Fr (Blk d m0 r0) w w') ∧ w'.cell? ⟨w.heap.size, 0, none⟩ = some (.pointer (some ⟨d, 0, none⟩)) ∧ Hid (w.heap.size + 1 ≤ w'.heap.size)) (fun _ _ _ => False)) ?_ ?_
        · gi_region
          have hs := (unhide HS1).set2 a' c'
          refine ⟨rfl, ⟨hs.1.drew, ((Fr.below (unhide HB1)).trans hs.2 (fun k h => .inl h)).drew⟩, ?_, ?_⟩
          · refine (World.cell?_of_block (a := ⟨w.heap.size, 0, none⟩) ?_).trans hbx1
            exact (Below.heap_setCell _ ⟨d, 3, none⟩ _ w.heap.size (by show w.heap.size ≠ d; omega)).trans (Below.heap_setCell _ ⟨d, 2, none⟩ _ w.heap.size (by show w.heap.size ≠ d; omega))
          · show _ ≤ (World.drew _).heap.size
            have := unhide hz1
            simpa using this
        intro e b' w2 h
        cases e with
        | normal => ?_
        | ret => exact h.elim
        | exit _ => exact h.elim
        | goto _ => exact h.elim
        | panic _ => exact h.elim
        | outgrown => exact h.elim
        obtain ⟨rfl, hSw, hbx2, hz2⟩ := h
        clear h2 h3 z2 z3 HS1 hbx1 hz1 HB1
        gi_wp2_with fail
        refine wpIn_loop (fun b' w' => ∃ v11 v12 v51 v52 v53 v54 v55 v56 v57 v58 v59 v60 v61 v62 v63 v64 v65 v66 v67 v68 v69 v70 v71 v72 v73 : Value, ∃ (i : Nat) (ds : List Nat), (i ≤ j ∧ Hid (ApRel w d m0 r0 n f g a' c' R i ds w')) ∧ b' = { tmps := #[Value.pointer (some { block := d, off := 0 }), Value.slice p j cR, Value.pointer (some { block := w.heap.size, off := 0 }), undef, u4, undef, u6, Value.int IntKind.i64 a', Value.int IntKind.i64 c', Value.int IntKind.i64 0, undef, v11, v12, Value.slice p j cR, Value.int IntKind.i64 j, Value.int IntKind.i64 j, Value.bool false, u17, u18, u19, u20, u21, u22, u23, u24, u25, u26, u27, u28, u29, Value.tuple #[Value.int IntKind.i64 a', Value.int IntKind.i64 c', Value.int IntKind.i64 0], Value.pointer (some { block := d, off := 0 }), Value.slice p j cR, Value.tuple #[Value.int IntKind.i64 a', Value.int IntKind.i64 c', Value.int IntKind.i64 0], Value.int IntKind.i64 a', Value.int IntKind.i64 c', Value.int IntKind.i64 0, Value.int IntKind.i64 0, Value.bool false, undef, Value.pointer (some { block := d, off := 0 }), Value.pointer (some { block := d, off := 0 }), Value.int IntKind.i64 a', Value.int IntKind.i64 c', Value.pointer (some { block := d, off := 0 }), Value.pointer (some { block := d, off := 2 }), Value.pointer (some { block := d, off := 0 }), Value.pointer (some { block := d, off := 3 }), Value.slice p j cR, Value.int IntKind.i64 j, Value.int IntKind.i64 (i : Int), v51, v52, v53, v54, v55, v56, v57, v58, v59, v60, v61, v62, v63, v64, v65, v66, v67, v68, v69, v70, v71, v72, v73], defers := ds.map mk8 }) (fun b' _ => j - (intOf (b'.tmps.getD 50 undef)).toNat) ?_ ?_
        · refine ⟨undef, undef, undef, undef, undef, undef, undef, undef, undef, undef, undef, undef, undef, undef, undef, undef, undef, undef, undef, undef, undef, undef, undef, undef, undef, 0, [], ⟨by omega, ?_⟩, rfl⟩
          have e0 : apF f R 0 = f := funext fun k => by simp [apF, rws, own, sm]; exact wrap_id (unhide HS).own k
          have e1 : apG g R 0 = g := funext fun k => by simp [apG, rws, roll, sm]; exact wrap_id (unhide HS).rol k
          refine ⟨?_, hbx2, unhide hz2, List.nodup_nil, fun D h => by cases h⟩
          rw [e0, e1]
          exact ⟨m0, r0, (unhide hSw).1.mono (by omega), (unhide hSw).2, fun k h => .inl h⟩
        · rintro b' wr ⟨v11, v12, v51, v52, v53, v54, v55, v56, v57, v58, v59, v60, v61, v62, v63, v64, v65, v66, v67, v68, v69, v70, v71, v72, v73, i, ds, ⟨hi, hrel⟩, rfl⟩
          clear hSw hbx2 hz2
          by_cases hlt : i < j
          · have hr := unhide hrel
            have hiR : i < R.length := by omega
            obtain ⟨q, rfl, hq, hcell⟩ := unhide HR i hiR
            obtain ⟨r, hrr⟩ : ∃ r, r = R[i] := ⟨_, rfl⟩
            rw [← hrr] at hcell
            have hrm : r ∈ R := by rw [hrr]; exact List.getElem_mem hiR
            have hqb : wr.heap[q]? = w.heap[q]? := by
              obtain ⟨mo, mr, h1, h2, h3⟩ := hr.va
              exact h2.block q hq ((unhide HS).not_cell (hcell 0 _ rfl) (unhide HPD q rfl))
            have hld := run_ld35 (w := wr) (g := q) (k := i) (r := r) (fun x v hv => (World.cell?_of_block (a := ⟨q, i * 9 + x, none⟩) hqb).trans (hcell x v hv))
            have hok := unhide HOK r hrm
            have hsz := unhide HA r hrm
            have hbox := hr.box
            have hwsz := hr.sz
            obtain ⟨A, hA⟩ : ∃ A, A = Obj.cells #[.int .i64 r.i0, .int .i64 r.i1, .int .i64 r.i2, .int .i64 r.i3, .string r.s4, .string r.acc, .int .i64 r.amt, .string r.s7, .string r.s8] 74 := ⟨_, rfl⟩
            have hboxA : (wr.alloc A).cell? ⟨w.heap.size, 0, none⟩ = some (.pointer (some ⟨d, 0, none⟩)) := (World.cell?_alloc_lt wr A ⟨w.heap.size, 0, none⟩ (by show w.heap.size < wr.heap.size; omega)).trans hbox
            obtain ⟨mo, mr, hs1, hf1, hn1⟩ := (hr.va.below (bal (Below.refl _ _) A)).drew
            have dAdd := hide (addOwn hs1 (by unfold maxLen; have := unhide HNN; omega) (s := r.acc) (by unfold maxLen; omega) r.amt)
            have hc5 : (wr.alloc A).cell? ⟨wr.heap.size, 5, none⟩ = some (.string r.acc) := by rw [hA, World.cell?_alloc_mark]; rfl
            have hc6 : (wr.alloc A).cell? ⟨wr.heap.size, 6, none⟩ = some (.int .i64 r.amt) := by rw [hA, World.cell?_alloc_mark]; rfl
            have hdwr : d ≠ wr.heap.size := by omega
            have H5 := hide hc5; have H6 := hide hc6; have HS1 := hide hs1; have HF1 := hide hf1; have HN1 := hide hn1; have HRR := hide hrr; have HOKr := hide hok; have HSZ := hide hsz; have HBX := hide hboxA; have HW := hide hwsz
            clear hcell hrm hqb hr hs1 hf1 hn1 hrr hok hsz hc5 hc6 hwsz hbox
            subst hA
            dsimp only
            gi_wp2_with fail
            refine wpIn_mono (Q := Exit.then (fun b' w' => ∃ rv, b' = { tmps := #[Value.pointer (some { block := d, off := 0 }), Value.slice (some { block := q, off := 0 }) j cR, Value.pointer (some { block := w.heap.size, off := 0 }), undef, u4, undef, u6, Value.int IntKind.i64 a', Value.int IntKind.i64 c', Value.int IntKind.i64 0, undef, Value.pointer (some { block := wr.heap.size, off := 0 }), v12, Value.slice (some { block := q, off := 0 }) j cR, Value.int IntKind.i64 j, Value.int IntKind.i64 j, Value.bool false, u17, u18, u19, u20, u21, u22, u23, u24, u25, u26, u27, u28, u29, Value.tuple #[Value.int IntKind.i64 a', Value.int IntKind.i64 c', Value.int IntKind.i64 0], Value.pointer (some { block := d, off := 0 }), Value.slice (some { block := q, off := 0 }) j cR, Value.tuple #[Value.int IntKind.i64 a', Value.int IntKind.i64 c', Value.int IntKind.i64 0], Value.int IntKind.i64 a', Value.int IntKind.i64 c', Value.int IntKind.i64 0, Value.int IntKind.i64 0, Value.bool false, undef, Value.pointer (some { block := d, off := 0 }), Value.pointer (some { block := d, off := 0 }), Value.int IntKind.i64 a', Value.int IntKind.i64 c', Value.pointer (some { block := d, off := 0 }), Value.pointer (some { block := d, off := 2 }), Value.pointer (some { block := d, off := 0 }), Value.pointer (some { block := d, off := 3 }), Value.slice (some { block := q, off := 0 }) j cR, Value.int IntKind.i64 j, Value.int IntKind.i64 i, Value.bool true, Value.pointer (some { block := q, off := i * 9 }), Value.agg #[.int .i64 r.i0, .int .i64 r.i1, .int .i64 r.i2, .int .i64 r.i3, .string r.s4, .string r.acc, .int .i64 r.amt, .string r.s7, .string r.s8], Value.pointer (some { block := d, off := 0 }), Value.pointer (some { block := d, off := 0 }), Value.pointer (some { block := d, off := 0 }), Value.pointer (some { block := wr.heap.size, off := 5 }), Value.string r.acc, Value.pointer (some { block := wr.heap.size, off := 6 }), Value.int IntKind.i64 r.amt, rv, v62, v63, v64, v65, v66, v67, v68, v69, v70, v71, v72, v73], defers := ds.map mk8 } ∧ Hid (Va w d m0 r0 (n + 7 * i + 1) (apF f R (i + 1)) (apG g R i) a' c' w' ∧ (∀ D ∈ ds, w.heap.size < D ∧ w'.heap[D]? = some (.deferred (some [])))) ∧ w'.cell? ⟨w.heap.size, 0, none⟩ = some (.pointer (some ⟨d, 0, none⟩)) ∧ w'.cell? ⟨wr.heap.size, 5, none⟩ = some (.string r.acc) ∧ w'.cell? ⟨wr.heap.size, 6, none⟩ = some (.int .i64 r.amt)) (fun _ _ _ => False)) ?_ ?_
            · gi_region_with ((first | (refine ⟨trivial, ?_⟩; refine (callsIn_wide.2 (unhide dAdd)).mono ?_; rintro e w2 ⟨⟨rv, rfl⟩, mo', hs2, hst⟩; have HS2 := hide hs2; have HST := hide hst; clear hs2 hst)))
              all_goals
                refine ⟨_, rfl, ⟨?_, fun D hD => ?_⟩, (unhide HST).cell (unhide HS1) (unhide HBX) (by omega), (unhide HST).cell (unhide HS1) (unhide H5) hdwr.symm, (unhide HST).cell (unhide HS1) (unhide H6) hdwr.symm⟩
                · have h := Va.step (unhide HF1) (unhide HN1) (unhide HS2) (unhide HST)
                  rw [unhide HRR, apF_step f R i hiR] at h
                  exact h
                · have h := (unhide hrel).lp D hD
                  refine ⟨h.1, ((unhide HST).lpy (unhide HS1)).same D _ ?_ rfl⟩
                  exact (Below.heap_alloc _ _ D (Array.getElem?_eq_some_iff.1 h.2).1).trans h.2
            intro e b' w2 h
            cases e with
            | normal => ?_
            | ret => exact h.elim
            | exit _ => exact h.elim
            | goto _ => exact h.elim
            | panic _ => exact h.elim
            | outgrown => exact h.elim
            obtain ⟨rv, rfl, hva, hbx2, hc5, hc6⟩ := h
            clear dAdd H5 H6 HS1 HF1 HN1 hboxA HBX hld
            have hw2 : w.heap.size < w2.heap.size := World.block_lt_of_cell? w2 ⟨w.heap.size, 0, none⟩ hbx2
            gi_wp2_with fail
            refine ⟨trivial, (callsIn_wide.2 (upwards_any r.acc _)).mono ?_⟩
            rintro e w3 ⟨rfl, hw3⟩
            have hb3 : Below w2.heap.size w2 w3 := by rw [hw3]; exact bal (Below.refl _ _) _
            have hB3 : w3.cell? ⟨w2.heap.size, 0, none⟩ = some (.string r.acc) := by rw [hw3]; exact box_new _ _ _
            have hseq := hide (up_gives r.acc (unhide HSZ) (unhide HOKr).1 w2.heap.size w3 hB3 3 (by omega))
            have hbx3 := keep1 hb3 (o := 0) hw2 hbx2
            have hc63 := keep1 hb3 (o := 6) (World.block_lt_of_cell? w2 ⟨wr.heap.size, 6, none⟩ hc6) hc6
            have hva3 := hide ((unhide hva).1.below hb3)
            have hlp3 : Hid (∀ D ∈ ds, w.heap.size < D ∧ D < w3.heap.size ∧ w3.heap[D]? = some (.deferred (some []))) := fun D hD => by
              have h := (unhide hva).2 D hD
              have hlt := (Array.getElem?_eq_some_iff.1 h.2).1
              exact ⟨h.1, Nat.lt_of_lt_of_le hlt hb3.size, (hb3.block D hlt).trans h.2⟩
            have hz3 : w.heap.size < w3.heap.size := Nat.lt_of_lt_of_le hw2 hb3.size
            have hpn : pathL r.acc.data.toList = r.acc.data.toList :: ups r.acc.data.toList := by rw [pathL, if_pos (unhide HOKr).1]
            have hnd : (pathL r.acc.data.toList).Nodup := by rw [hpn]; exact ups_is.once _
            have hple := path_len r.acc.data.toList
            clear hw3 hb3 hB3 hva hbx2 hc5 hc6
            gi_wp2_with fail
            refine range_up rfl (by omega) (gf := 165) (lb := #[.pointer (some ⟨w2.heap.size, 0, none⟩)]) rfl trivial enters31 (enc := encStr) (X := pathL r.acc.data.toList) (unhide hseq) rfl
              (fun pre W => Va w d m0 r0 (n + 7 * i + 1 + pre.length) (apF f R (i + 1)) (apP g R i r.amt pre) a' c' W ∧ W.cell? ⟨w.heap.size, 0, none⟩ = some (.pointer (some ⟨d, 0, none⟩)) ∧ W.cell? ⟨wr.heap.size, 6, none⟩ = some (.int .i64 r.amt) ∧ ∀ D ∈ ds, W.heap[D]? = some (.deferred (some [])))
              ?own ?start (fun x => { tmps := #[Value.pointer (some { block := d, off := 0 }), Value.slice (some { block := q, off := 0 }) j cR, Value.pointer (some { block := w.heap.size, off := 0 }), undef, u4, undef, u6, Value.int IntKind.i64 a', Value.int IntKind.i64 c', Value.int IntKind.i64 0, undef, Value.pointer (some { block := wr.heap.size, off := 0 }), encStr x, Value.slice (some { block := q, off := 0 }) j cR, Value.int IntKind.i64 j, Value.int IntKind.i64 j, Value.bool false, u17, u18, u19, u20, u21, u22, u23, u24, u25, u26, u27, u28, u29, Value.tuple #[Value.int IntKind.i64 a', Value.int IntKind.i64 c', Value.int IntKind.i64 0], Value.pointer (some { block := d, off := 0 }), Value.slice (some { block := q, off := 0 }) j cR, Value.tuple #[Value.int IntKind.i64 a', Value.int IntKind.i64 c', Value.int IntKind.i64 0], Value.int IntKind.i64 a', Value.int IntKind.i64 c', Value.int IntKind.i64 0, Value.int IntKind.i64 0, Value.bool false, undef, Value.pointer (some { block := d, off := 0 }), Value.pointer (some { block := d, off := 0 }), Value.int IntKind.i64 a', Value.int IntKind.i64 c', Value.pointer (some { block := d, off := 0 }), Value.pointer (some { block := d, off := 2 }), Value.pointer (some { block := d, off := 0 }), Value.pointer (some { block := d, off := 3 }), Value.slice (some { block := q, off := 0 }) j cR, Value.int IntKind.i64 j, Value.int IntKind.i64 i, Value.bool true, Value.pointer (some { block := q, off := i * 9 }), Value.agg #[.int .i64 r.i0, .int .i64 r.i1, .int .i64 r.i2, .int .i64 r.i3, .string r.s4, .string r.acc, .int .i64 r.amt, .string r.s7, .string r.s8], Value.pointer (some { block := d, off := 0 }), Value.pointer (some { block := d, off := 0 }), Value.pointer (some { block := d, off := 0 }), Value.pointer (some { block := wr.heap.size, off := 5 }), Value.string r.acc, Value.pointer (some { block := wr.heap.size, off := 6 }), Value.int IntKind.i64 r.amt, rv, Value.pointer (some { block := wr.heap.size, off := 5 }), Value.string r.acc, Value.func (.func 165) #[] #[.pointer (some ⟨w2.heap.size, 0, none⟩)], encStr x, v66, v67, v68, v69, v70, v71, v72, v73], defers := [] }) ?assign ?body ?done
            case own =>
              rintro pre W W' row ⟨h1, h2, h3, h4⟩ hg hr
              refine ⟨h1.turn hg (fun r e => ⟨by have := (hr r e).1; omega, (hr r e).2⟩), cell_turn h2 hg (fun r e => (hr r e).2), cell_turn h3 hg (fun r e => (hr r e).2), fun D hD => ?_⟩
              refine (hg.block D (Array.getElem?_eq_some_iff.1 (h4 D hD)).1 (fun e => ?_)).trans (h4 D hD)
              have h5 := (hr D e.symm).1
              have h6 := (unhide hlp3 D hD).2.1
              omega
            case start =>
              refine ⟨?_, hbx3, hc63, fun D hD => (unhide hlp3 D hD).2.2⟩
              rw [apP_nil]
              exact unhide hva3
            case assign =>
              intro l x W K hK
              gi_wp2
              exact hK
            case body =>
              rintro l pre x W ⟨h1, h2, h3, h4⟩ hpx
              have hxn : x ∉ pre := by
                have hsub := (hpx.sublist.nodup hnd)
                rw [List.nodup_append] at hsub
                exact fun hm => hsub.2.2 x hm x (by simp) rfl
              have hxl : pre.length < 6 := by
                have := hpx.length_le
                simp at this
                omega
              have hxm : x ∈ pathL r.acc.data.toList := hpx.subset (by simp)
              have hxs : x.length ≤ r.acc.size := path_le r.acc hxm
              obtain ⟨s, hs⟩ : ∃ s : ByteArray, s = ⟨x.toArray⟩ := ⟨_, rfl⟩
              have hse : encStr x = .string s := by rw [hs]
              have hsl : s.data.toList = x := by rw [hs]
              have hss : s.size ≤ maxLen := by
                have e : s.size = x.length := by rw [hs]; simp [ByteArray.size]
                have h5 := unhide HSZ
                rw [e]
                unfold maxLen
                omega
              obtain ⟨mo, mr, hs1, hf1, hn1⟩ := h1.drew
              have dAdd := hide (addRoll hs1 (by unfold maxLen; have := unhide HNN; omega) hss r.amt)
              have HS1 := hide hs1; have HF1 := hide hf1; have HN1 := hide hn1; have H2 := hide h2; have H3 := hide h3; have H4 := hide h4; have HSL := hide hsl; have HXN := hide hxn
              rw [hse]
              clear hs1 hf1 hn1 h4 hsl hs hse hxl hxm hxs hxn hpx hss
              gi_wp2_with fail
              gi_region_with ((first | (refine ⟨trivial, ?_⟩; refine (callsIn_wide.2 (unhide dAdd)).mono ?_; rintro e w5 ⟨⟨rv2, rfl⟩, mr', hs2, hst⟩; have HS2 := hide hs2; have HST := hide hst; clear hs2 hst)))
              all_goals
                have hk := (unhide HST).lpy (unhide HS1)
                refine ⟨rfl, ⟨hk.size, hk.same⟩, ?_, (unhide HST).cell (unhide HS1) (unhide H2) (by omega), (unhide HST).cell (unhide HS1) (unhide H3) hdwr.symm, fun D hD => hk.same D _ (unhide H4 D hD) rfl⟩
                have h := Va.step (unhide HF1) (unhide HN1) (unhide HS2) (unhide HST)
                rw [unhide HSL, apP_step g R i r.amt pre (unhide HXN)] at h
                rw [List.length_append]
                exact h
            case done =>
              intro D W hD hIX hWD
              obtain ⟨h1, h2, h3, h4⟩ := hIX
              have hlen : (pathL r.acc.data.toList).length ≤ 6 := hple
              have hmono : Va w d m0 r0 (n + 7 * (i + 1)) (apF f R (i + 1)) (apG g R (i + 1)) a' c' W := by
                obtain ⟨mo, mr, q1, q2, q3⟩ := h1
                rw [hpn, unhide HRR, apP_all g R i hiR] at q1
                exact ⟨mo, mr, q1.mono (by rw [← unhide HRR]; rw [hpn] at hlen; omega), q2, q3⟩
              have HI : Hid (ApRel w d m0 r0 n f g a' c' R (i + 1) (D :: ds) W) := by
                refine ⟨hmono, h2, Nat.le_of_lt (Nat.lt_of_le_of_lt (Nat.succ_le_of_lt hz3) (Nat.lt_of_le_of_lt hD (Array.getElem?_eq_some_iff.1 hWD).1)), List.nodup_cons.2 ⟨fun hm => ?_, (unhide hrel).nd⟩, fun D' hD' => ?_⟩
                · have := (unhide hlp3 D hm).2.1
                  omega
                · rcases List.mem_cons.1 hD' with rfl | hm
                  · exact ⟨by omega, hWD⟩
                  · exact ⟨(unhide hlp3 D' hm).1, h4 D' hm⟩
              clear h1 h2 h3 h4 hmono hlen
              gi_wp2
              exact ⟨⟨_, _, _, _, _, _, _, _, _, _, _, _, _, _, _, _, _, _, _, _, _, _, _, _, _, i + 1, D :: ds, ⟨by omega, HI⟩, rfl⟩, by simp [intOf]; omega⟩
          · have hij : i = j := by omega
            subst hij
            have hr := unhide hrel
            gi_wp2
            refine leaves_all (fun W => results_tmp rfl _ _ _) ApRel.own (fun W hW => .inr (.inr ⟨unhide HOK, unhide HTW, rfl, ?_⟩)) ds _ hr.va hr.nd (fun D hD => ⟨Nat.le_of_lt (hr.lp D hD).1, (hr.lp D hD).2⟩)
            rw [← unhide HA', ← unhide HC', hN]
            have hW' := hW
            unfold apF apG at hW'
            rw [List.take_of_length_le (by omega)] at hW'
            exact hW'
      · have HTW := hide hno
        clear hno
        gi_wp2
        exact ⟨_, results_tmp rfl _ _ _, .inr (.inl ⟨unhide HOK, unhide HTW, rfl, unhide HB1⟩)⟩
end Go.Proofs.YtpeefmbdhkfhmaaGreatDoor
