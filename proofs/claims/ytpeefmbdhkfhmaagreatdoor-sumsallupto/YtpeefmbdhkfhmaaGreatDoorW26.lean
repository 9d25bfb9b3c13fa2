import Derived.Test.YtpeefmbdhkfhmaaGreatDoorW17
import Derived.Test.YtpeefmbdhkfhmaaGreatDoorW22
import Derived.Test.YtpeefmbdhkfhmaaGreatDoorW23
import Derived.Test.YtpeefmbdhkfhmaaGreatDoorW10
import Derived.Test.YtpeefmbdhkfhmaaGreatDoorW20
import Derived.Test.YtpeefmbdhkfhmaaGreatDoorW24
import Derived.Test.YtpeefmbdhkfhmaaGreatDoorW25
/- The document's sums: the view while it is made anew. -/
namespace Go.Proofs.YtpeefmbdhkfhmaaGreatDoor.Kg
open Go Go.RowKit Go.Shelf Go.ChangeShapes Go.WideShapes Go.ChangeAt Go.Maps
set_option linter.unusedVariables false
set_option linter.unusedSimpArgs false
set_option maxRecDepth 100000
set_option maxHeartbeats 8000000
def kP : Kd Ro := ⟨Ro.vals, 9, 66, 74, 104⟩
theorem kP_ok : KdOK kP := kd_ok (fun _ => rfl) (by decide) (fun x u hu => by simp [kP, Ro.vals] at hu; rcases hu with rfl | rfl | rfl | rfl | rfl | rfl | rfl | rfl | rfl <;> rfl) Tryz.underlying66 (z := .agg #[.int .i64 0, .int .i64 0, .int .i64 0, .int .i64 0, .string ⟨#[]⟩, .string ⟨#[]⟩, .int .i64 0, .string ⟨#[]⟩, .string ⟨#[]⟩]) (by kernel_rfl) rfl (by decide)
/-- the document's new view, being made at W's end: its names and its amounts -/
structure Ap (W wr : World) (vn va : Value) (Ns : List ByteArray) (As : List Int) : Prop where
  b5 : wr.heap[W.heap.size]? = some (.cells #[vn, va] 86 (0, 0))
  rn : wr.ownsRow (W.heap.size + 1) kS.e kS.s vn Ns.length (kS.flat Ns)
  ra : wr.ownsRow (W.heap.size + 1) kN.e kN.s va As.length (kN.flat As)
  ap : ∀ q, vn.ownBlock = some q → va.ownBlock ≠ some q
  bel : Below W.heap.size W wr
theorem Ap.lt {W wr : World} {vn va : Value} {Ns : List ByteArray} {As : List Int} (h : Ap W wr vn va Ns As) : W.heap.size < wr.heap.size := (Array.getElem?_eq_some_iff.1 h.b5).1
theorem Ap.below {W wr w' : World} {vn va : Value} {Ns : List ByteArray} {As : List Int} (h : Ap W wr vn va Ns As) (hb : Below wr.heap.size wr w') : Ap W w' vn va Ns As :=
  ⟨(hb.block _ h.lt).trans h.b5, row_keep h.rn (fun q e => hb.block q (row_block h.rn e).2.1), row_keep h.ra (fun q e => hb.block q (row_block h.ra e).2.1), h.ap, h.bel.trans (hb.mono h.bel.size)⟩
theorem set_heap {w : World} {b i : Nat} {cs : Array Value} {y : Value} {t : TypeId} (h : w.heap[b]? = some (.cells cs t (0, 0))) : (w.setCell ⟨b, i, none⟩ y).heap[b]? = some (.cells (cs.setIfInBounds i y) t (0, 0)) := by
  simp [World.setCell, Array.getElem?_modify, h]
theorem Ap.names {W wr : World} {vn va : Value} {Ns M : List ByteArray} {As : List Int} (h : Ap W wr vn va Ns As) {pu : Option Addr} {cu : Nat} (hcu : pu = none → cu = 0) (hu : Lies kS wr pu M) (hl : Ns.length + M.length ≤ 1099511627776) :
    ∃ p' c' w', (Builtin.append_ #[83, 83] 83 #[vn, .slice pu M.length cu]).run Tryz.prog wr = .ok (.slice p' (Ns.length + M.length) c') w' ∧ w'.cell? ⟨W.heap.size, 0, none⟩ = some vn ∧ w'.frozen? ⟨W.heap.size, 0, none⟩ = false ∧ Below W.heap.size W w' ∧ Below (W.heap.size + 1) wr w' ∧ Ap W (w'.setCell ⟨W.heap.size, 0, none⟩ (.slice p' (Ns.length + M.length) c')) (.slice p' (Ns.length + M.length) c') va (Ns ++ M) As := by
  have hlt := h.lt
  obtain ⟨p', c', w', hr, ho, hb, hfar, hown⟩ := run_app kS_ok 83 (B := W.heap.size + 1) (L := Ns) (M := M) h.rn (by omega) pu cu hcu hu hl
  have e5 : w'.heap[W.heap.size]? = some (.cells #[vn, va] 86 (0, 0)) := (hb.block _ (by omega)).trans h.b5
  have hbW : Below W.heap.size W w' := h.bel.trans (hb.mono (by omega))
  refine ⟨p', c', w', hr, by rw [cell_at e5]; rfl, froz_at e5, hbW, hb, ?_⟩
  have hkeep : ∀ q, W.heap.size + 1 ≤ q → (w'.setCell ⟨W.heap.size, 0, none⟩ (.slice p' (Ns.length + M.length) c')).heap[q]? = w'.heap[q]? := fun q hq => Below.heap_setCell _ _ _ _ (by show q ≠ W.heap.size; omega)
  refine ⟨by rw [set_heap e5]; rfl, row_keep (by rw [List.length_append]; exact ho) (fun q e => hkeep q (row_block ho e).1), row_keep h.ra (fun q e => (hkeep q (row_block h.ra e).1).trans (hfar q (row_block h.ra e).2.1 (fun e2 => h.ap q e2 e))), fun q h1 h2 => ?_, hbW.setCell (p := ⟨W.heap.size, 0, none⟩) (Nat.le_refl _) _⟩
  rcases hown with e | e
  · exact h.ap q (e.symm.trans h1) h2
  · rw [e] at h1
    injection h1 with h1
    have := (row_block h.ra h2).2.1
    omega
theorem Ap.amts {W wr : World} {vn va : Value} {Ns : List ByteArray} {As M : List Int} (h : Ap W wr vn va Ns As) {pu : Option Addr} {cu : Nat} (hcu : pu = none → cu = 0) (hu : Lies kN wr pu M) (hl : As.length + M.length ≤ 1099511627776) :
    ∃ p' c' w', (Builtin.append_ #[84, 84] 84 #[va, .slice pu M.length cu]).run Tryz.prog wr = .ok (.slice p' (As.length + M.length) c') w' ∧ w'.cell? ⟨W.heap.size, 1, none⟩ = some va ∧ w'.frozen? ⟨W.heap.size, 1, none⟩ = false ∧ Below W.heap.size W w' ∧ Below (W.heap.size + 1) wr w' ∧ Ap W (w'.setCell ⟨W.heap.size, 1, none⟩ (.slice p' (As.length + M.length) c')) vn (.slice p' (As.length + M.length) c') Ns (As ++ M) := by
  have hlt := h.lt
  obtain ⟨p', c', w', hr, ho, hb, hfar, hown⟩ := run_app kN_ok 84 (B := W.heap.size + 1) (L := As) (M := M) h.ra (by omega) pu cu hcu hu hl
  have e5 : w'.heap[W.heap.size]? = some (.cells #[vn, va] 86 (0, 0)) := (hb.block _ (by omega)).trans h.b5
  have hbW : Below W.heap.size W w' := h.bel.trans (hb.mono (by omega))
  refine ⟨p', c', w', hr, by rw [cell_at e5]; rfl, froz_at e5, hbW, hb, ?_⟩
  have hkeep : ∀ q, W.heap.size + 1 ≤ q → (w'.setCell ⟨W.heap.size, 1, none⟩ (.slice p' (As.length + M.length) c')).heap[q]? = w'.heap[q]? := fun q hq => Below.heap_setCell _ _ _ _ (by show q ≠ W.heap.size; omega)
  refine ⟨by rw [set_heap e5]; rfl, row_keep h.rn (fun q e => (hkeep q (row_block h.rn e).1).trans (hfar q (row_block h.rn e).2.1 (fun e2 => h.ap q e e2))), row_keep (by rw [List.length_append]; exact ho) (fun q e => hkeep q (row_block ho e).1), fun q h1 h2 => ?_, hbW.setCell (p := ⟨W.heap.size, 1, none⟩) (Nat.le_refl _) _⟩
  rcases hown with e | e
  · exact h.ap q h1 (e.symm.trans h2)
  · rw [e] at h2
    injection h2 with h2
    have := (row_block h.rn h1).2.1
    omega

theorem Ap.drew {W wr : World} {vn va : Value} {Ns : List ByteArray} {As : List Int} (h : Ap W wr vn va Ns As) : Ap W wr.drew vn va Ns As := h.below (below_drewN (Below.refl _ wr) 1)
theorem Ap.c0 {W wr : World} {vn va : Value} {Ns : List ByteArray} {As : List Int} (h : Ap W wr vn va Ns As) : wr.cell? ⟨W.heap.size, 0, none⟩ = some vn := by rw [cell_at h.b5]; rfl
theorem Ap.c1 {W wr : World} {vn va : Value} {Ns : List ByteArray} {As : List Int} (h : Ap W wr vn va Ns As) : wr.cell? ⟨W.heap.size, 1, none⟩ = some va := by rw [cell_at h.b5]; rfl
/-- a row that can be told -/
def okP (r : Ro) : Prop := nameL r.acc.data.toList = true ∧ isAm r.amt
def accR (R : List Ro) : List ByteArray := R.map (·.acc)
def amtR (R : List Ro) : List Int := R.map (·.amt)
theorem Ap.rd {W wr : World} {vn va : Value} {Ns : List ByteArray} {As : List Int} (h : Ap W wr vn va Ns As) (hlen : As.length = Ns.length) (few : Ns.length < 1099511627000) (am : ∀ a ∈ As, isAm a) (nm : ∀ x ∈ Ns, x.size < 4611686018427387904) : Rd wr W.heap.size (fun q => q = W.heap.size ∨ vn.ownBlock = some q ∨ va.ownBlock = some q) Ns As :=
  ⟨⟨vn, va, h.b5, row_le h.rn (Nat.zero_le _), row_le h.ra (Nat.zero_le _), fun q e => .inr (.inl e), fun q e => .inr (.inr e)⟩, .inl rfl, fun q hq => by
    rcases hq with rfl | e | e
    · exact h.lt
    · exact (row_block h.rn e).2.1
    · exact (row_block h.ra e).2.1, hlen, few, am, nm⟩
/-- what the document's Apply leaves -/
def ROut (W : World) (d : Nat) (S : Nat → Prop) (Ns : List ByteArray) (As : List Int) (R : List Ro) (e : Ending) (w' : World) : Prop :=
  (¬ (∀ r ∈ R, okP r) ∧ e = .returned (.int .i64 1) ∧ Below W.heap.size W w') ∨
  ((∀ r ∈ R, okP r) ∧ (sidS (Ns ++ accR R) (As ++ amtR R)).2.2 ≠ 0 ∧ e = .returned (.int .i64 11) ∧ Below W.heap.size W w') ∨
  ((∀ r ∈ R, okP r) ∧ (sidS (Ns ++ accR R) (As ++ amtR R)).2.2 = 0 ∧ e = .returned (.int .i64 0) ∧ ∃ S', Rd w' d S' (Ns ++ accR R) (As ++ amtR R) ∧ Fr (fun q => q = d) W w' ∧ ∀ q, S' q → S q ∨ W.heap.size ≤ q)
theorem sidS_err (Ns : List ByteArray) (As : List Int) : (sidS Ns As).2.2 = 0 ∨ (sidS Ns As).2.2 = 11 := by
  unfold sidS
  split
  · exact .inr rfl
  · split
    · exact .inr rfl
    · exact .inl rfl
theorem rapply_any {W : World} {d : Nat} {S : Nat → Prop} {Ns : List ByteArray} {As : List Int} (hR : Rd W d S Ns As) {p : Option Addr} {c : Nat} {R : List Ro} (hL : Lies kP W p R) (hfew : Ns.length + R.length < 1099511627000) (hnm : ∀ r ∈ R, r.acc.size < 4611686018427387904) (ham : ∀ r ∈ R, -9223372036854775808 ≤ r.amt ∧ r.amt ≤ 9223372036854775807) :
    Calls Tryz.prog 19 #[.pointer (some ⟨d, 0, none⟩), .slice p R.length c] W fun e w' => ROut W d S Ns As R e w' := by
  obtain ⟨pn, cn, pa, ca, n0, n1, ln, la, hpn, hpa⟩ := hR.lists
  have hdW : d < W.heap.size := hR.lt d hR.sd
  obtain ⟨N, hN⟩ : ∃ N, N = R.length := ⟨_, rfl⟩
  obtain ⟨m, hm⟩ : ∃ m, m = Ns.length := ⟨_, rfl⟩
  have hNb : N ≤ 1099511627000 := by omega
  have hma : As.length = m := hR.len.trans hm.symm
  rw [hma] at n1
  rw [← hm] at n0
  obtain ⟨W1, hW1⟩ : ∃ X, X = W.alloc (.cells #[.slice none 0 0, .slice none 0 0] 86) := ⟨_, rfl⟩
  have hb1 : Below W.heap.size W W1 := by rw [hW1]; exact bal (Below.refl _ _) _
  have A0 : Hid (Ap W W1 (.slice none 0 0) (.slice none 0 0) [] []) := ⟨by rw [hW1]; exact heap_new _ _, World.ownsRow_nil _ _ _ _, World.ownsRow_nil _ _ _ _, (fun q e => by cases e), hb1⟩
  obtain ⟨Y1, hY1⟩ : ∃ Y, Y = W1.drew := ⟨_, rfl⟩
  have A1 : Hid (Ap W Y1 (.slice none 0 0) (.slice none 0 0) [] []) := by rw [hY1]; exact (unhide A0).drew
  have k1 : Y1.cell? ⟨d, 0, none⟩ = some (.slice pn m cn) := keep1 (unhide A1).bel hdW n0
  obtain ⟨p2, c2, w2, r2, e2, f2, b2, b2', A2⟩ := (unhide A1).names hpn (ln.below (unhide A1).bel) (by simp; omega)
  have k2 : w2.cell? ⟨d, 0, none⟩ = some (.slice pn m cn) := keep1 b2 hdW n0
  simp only [List.length_nil, Nat.zero_add, List.nil_append] at r2 A2
  rw [← hm] at r2 A2
  obtain ⟨X2, hX2⟩ : ∃ X, X = w2.setCell ⟨W.heap.size, 0, none⟩ (.slice p2 m c2) := ⟨_, rfl⟩
  rw [← hX2] at A2
  obtain ⟨Y2, hY2⟩ : ∃ Y, Y = X2.drew := ⟨_, rfl⟩
  have A3 : Hid (Ap W Y2 (.slice p2 m c2) (.slice none 0 0) Ns []) := by rw [hY2]; exact A2.drew
  have k3 : Y2.cell? ⟨d, 1, none⟩ = some (.slice pa m ca) := keep1 (unhide A3).bel hdW n1
  obtain ⟨p4, c4, w4, r4, e4, f4, b4, b4', A4⟩ := (unhide A3).amts hpa (la.below (unhide A3).bel) (by simp; omega)
  have k4 : w4.cell? ⟨d, 1, none⟩ = some (.slice pa m ca) := keep1 b4 hdW n1
  simp only [List.length_nil, Nat.zero_add, List.nil_append] at r4 A4
  rw [hma] at r4 A4
  obtain ⟨X4, hX4⟩ : ∃ X, X = w4.setCell ⟨W.heap.size, 1, none⟩ (.slice p4 m c4) := ⟨_, rfl⟩
  rw [← hX4] at A4
  have HA4 := hide A4
  have y0 : Y1.cell? ⟨W.heap.size, 0, none⟩ = some (.slice none 0 0) := (unhide A1).c0
  have y1 : Y2.cell? ⟨W.heap.size, 1, none⟩ = some (.slice none 0 0) := (unhide A3).c1
  have HR2 := hide r2; have HR4 := hide r4; have HR := hide hR; have HL := hide hL; have HN := hide hN; have HM := hide hm; have HNM := hide hnm; have HAM := hide ham; have HF := hide hfew; have HDW := hide hdW; have HMA := hide hma
  rw [← hN]
  clear hR hL hN hm hnm ham hfew ln la hpn hpa n0 n1 hb1 A2 A4 r2 r4 b2 b2' b4 b4' hma hdW
  go_enter Tryz.func19, Tryz.ntmps19
  go_upto_region 2 with fail
  rw [← hW1]
  clear hW1 A0
  refine wp_region_last (n := 12) (S := fun X => X.cell? ⟨W.heap.size, 0, none⟩ = some (.slice none 0 0) ∧ X.cell? ⟨d, 0, none⟩ = some (.slice pn m cn)) (by kernel_rfl) (by rw [← hY1]; exact ⟨y0, k1⟩) (fun hHeld => ?_)
  rw [← hY1] at hHeld ⊢
  clear hY1
  refine tkW 0 ?_; refine tkW 1 ?_; refine tkW 2 ?_; refine tkW 3 ?_; refine tkS 4 ?_; refine tkW 5 ?_; refine tkW 6 ?_; refine tkW 7 ?_; refine tkS 8 ?_
  refine wpAnyL_one (i := 9) (by kernel_rfl) rfl (fun KK hK => ?_)
  refine step_append_run _ (by rfl) _ _ 83 (by rfl) _ _ _ _ (by rfl) (by rfl) (unhide HR2) ?_
  simp only [Act.put, List.setIfInBounds_toArray]
  refine hK.out _ _ ⟨e2, k2⟩ (fun hHeld => ?_)
  clear hK KK
  refine tkW 10 ?_; refine tkW 11 ?_
  clear hHeld
  refine wpAnyL_past (i := 12) (by kernel_rfl) rfl (by kernel_rfl) (fun KK hK => ?_)
  go_simp
  rw [← hX2]
  refine hK.out _ _ ?_
  clear hK KK hX2 e2 f2 k2 y0 k1 HR2 A1
  refine wpAnyL_done (by kernel_rfl) ?_
  go_upto_region 3 with fail
  refine wp_region_last (n := 12) (S := fun X => X.cell? ⟨W.heap.size, 1, none⟩ = some (.slice none 0 0) ∧ X.cell? ⟨d, 1, none⟩ = some (.slice pa m ca)) (by kernel_rfl) (by rw [← hY2]; exact ⟨y1, k3⟩) (fun hHeld => ?_)
  rw [← hY2] at hHeld ⊢
  clear hY2
  refine tkW 0 ?_; refine tkW 1 ?_; refine tkW 2 ?_; refine tkW 3 ?_; refine tkS 4 ?_; refine tkW 5 ?_; refine tkW 6 ?_; refine tkW 7 ?_; refine tkS 8 ?_
  refine wpAnyL_one (i := 9) (by kernel_rfl) rfl (fun KK hK => ?_)
  refine step_append_run _ (by rfl) _ _ 84 (by rfl) _ _ _ _ (by rfl) (by rfl) (unhide HR4) ?_
  simp only [Act.put, List.setIfInBounds_toArray]
  refine hK.out _ _ ⟨e4, k4⟩ (fun hHeld => ?_)
  clear hK KK
  refine tkW 10 ?_; refine tkW 11 ?_
  clear hHeld
  refine wpAnyL_past (i := 12) (by kernel_rfl) rfl (by kernel_rfl) (fun KK hK => ?_)
  go_simp
  rw [← hX4]
  refine hK.out _ _ ?_
  clear hK KK hX4 e4 f4 k4 y1 k3 HR4 A3
  refine wpAnyL_done (by kernel_rfl) ?_
  go_upto_region 5 with fail
  go_loopw [6] (fun v6 wr => ∃ (i : Nat) (vn va : Value), i ≤ N ∧ v6 = .int .i64 (i : Int) ∧ Hid (Ap W wr vn va (Ns ++ accR (R.take i)) (As ++ amtR (R.take i)) ∧ ∀ r ∈ R.take i, okP r)) (fun v6 _ => N - (intOf v6).toNat)
  case atStart => exact ⟨0, _, _, by omega, rfl, by simpa [accR, amtR] using unhide HA4, fun r h => by simp at h⟩
  case round =>
    clear HA4
    obtain ⟨i, vn, va, hi, rfl, hrel⟩ := hrel
    obtain ⟨hA, hok⟩ := unhide hrel
    by_cases hlt : i < N
    · have hiR : i < R.length := by rw [← unhide HN]; exact hlt
      obtain ⟨b, off, e, hbl, hr⟩ := (unhide HL).2 i hiR
      obtain ⟨r, hrr⟩ : ∃ r, r = R[i] := ⟨_, rfl⟩
      rw [← hrr] at hr
      have hrm : r ∈ R := by rw [hrr]; exact List.getElem_mem hiR
      have g5 : W.cell? ⟨b, off + i * 9 + 5, none⟩ = some (.string r.acc) := hr 5 _ rfl
      have g6 : W.cell? ⟨b, off + i * 9 + 6, none⟩ = some (.int .i64 r.amt) := hr 6 _ rfl
      have q5 := keep1 hA.bel hbl g5
      have q6 := keep1 hA.bel hbl g6
      subst e
      have hI : (i : Int) < (N : Int) := by omega
      have hI0 : (0 : Int) ≤ (i : Int) := by omega
      have dn := hide (rname_any r.acc (by have := unhide HNM r hrm; omega) wr)
      have tk : R.take (i + 1) = R.take i ++ [r] := by rw [hrr]; exact List.take_succ_eq_append_getElem hiR
      have HTK := hide tk; have HRM := hide hrm; have HOK := hide hok; have HBL := hide hbl; have HG5 := hide g5; have HG6 := hide g6
      have hmr := unhide HAM r hrm
      obtain ⟨nb, hnb⟩ : ∃ nb, nb = nameL r.acc.data.toList := ⟨_, rfl⟩
      rw [← hnb] at dn
      have HNB := hide hnb
      have HA := hide hA
      clear hrel hok hr hrr hrm hiR tk hbl g5 g6 hnb
      cases nb with
      | false =>
        go_upto_region 8 with (first | (go_at_call 88; refine (unhide dn).mono ?_; rintro e w5 ⟨rfl, hw⟩; rw [hw]; clear hw w5))
        have d8 : Hid (∃ bb : Bool, Calls Tryz.prog 89 #[.int .i64 r.amt] wr fun e w' => e = .returned (.bool bb) ∧ w' = wr) := by
          by_cases h : r.amt = -9223372036854775808
          · exact ⟨false, by rw [h]; exact Mw.is_no wr⟩
          · exact ⟨true, Mw.is_yes r.amt wr (by omega)⟩
        obtain ⟨bb, h8⟩ := unhide d8
        have D8 := hide h8
        clear h8 d8
        go_wp2_with (first | (go_at_call 89; refine (unhide D8).mono ?_; rintro e w6 ⟨rfl, hw⟩; rw [hw]; clear hw w6))
        go_ret
        refine .inl ⟨fun h => ?_, rfl, (unhide HA).bel⟩
        have := (h r (unhide HRM)).1
        rw [← unhide HNB] at this
        cases this
      | true =>
        by_cases hmin : r.amt = -9223372036854775808
        · have d8 := hide (Mw.is_no wr)
          rw [hmin] at q6
          go_upto_region 8 with (first | (go_at_call 88; refine (unhide dn).mono ?_; rintro e w5 ⟨rfl, hw⟩; rw [hw]; clear hw w5))
          go_wp2_with (first | (go_at_call 89; refine (unhide d8).mono ?_; rintro e w6 ⟨rfl, hw⟩; rw [hw]; clear hw w6))
          go_ret
          refine .inl ⟨fun h => ?_, rfl, (unhide HA).bel⟩
          have := (h r (unhide HRM)).2.1
          omega
        · have d8 := hide (Mw.is_yes r.amt wr (by omega))
          have HOP : Hid (okP r) := ⟨(unhide HNB).symm, by show -9223372036854775807 ≤ r.amt; omega, hmr.2⟩
          obtain ⟨Y, hY⟩ : ∃ Y, Y = wr.drew := ⟨_, rfl⟩
          have A5 : Hid (Ap W Y vn va (Ns ++ accR (R.take i)) (As ++ amtR (R.take i))) := by rw [hY]; exact (unhide HA).drew
          obtain ⟨Z, hZ⟩ : ∃ Z, Z = Y.alloc (.cells #[.string r.acc] 9) := ⟨_, rfl⟩
          have hbZ : Below Y.heap.size Y Z := by rw [hZ]; exact bal (Below.refl _ _) _
          have A6 := (unhide A5).below hbZ
          have hNR : N = R.length := unhide HN
          have hMm : m = Ns.length := unhide HM
          have ll : (Ns ++ accR (R.take i)).length = m + i := by simp [accR, ← unhide HM]; omega
          have ll2 : (As ++ amtR (R.take i)).length = m + i := by simp [amtR, unhide HMA]; omega
          obtain ⟨p6, c6, w6, r6, e6, f6, b6, b6', A7⟩ := A6.names (pu := some ⟨Y.heap.size, 0, none⟩) (cu := 1) (M := [r.acc]) (fun h => by cases h) (by rw [hZ]; exact one_lies Y r.acc 9 _ rfl) (by rw [ll]; have := unhide HF; simp; omega)
          rw [ll] at r6 A7
          simp only [List.length_singleton] at r6 A7
          rw [hZ] at r6
          obtain ⟨X7, hX7⟩ : ∃ X, X = w6.setCell ⟨W.heap.size, 0, none⟩ (.slice p6 (m + i + 1) c6) := ⟨_, rfl⟩
          rw [← hX7] at A7
          obtain ⟨Y7, hY7⟩ : ∃ Y, Y = X7.drew := ⟨_, rfl⟩
          have A8 : Hid (Ap W Y7 (.slice p6 (m + i + 1) c6) va (Ns ++ accR (R.take i) ++ [r.acc]) (As ++ amtR (R.take i))) := by rw [hY7]; exact A7.drew
          obtain ⟨Z7, hZ7⟩ : ∃ Z, Z = Y7.alloc (.cells #[.int .i64 r.amt] 2) := ⟨_, rfl⟩
          have hbZ7 : Below Y7.heap.size Y7 Z7 := by rw [hZ7]; exact bal (Below.refl _ _) _
          have A9 := (unhide A8).below hbZ7
          obtain ⟨p9, c9, w9, r9, e9, f9, b9, b9', A10⟩ := A9.amts (pu := some ⟨Y7.heap.size, 0, none⟩) (cu := 1) (M := [r.amt]) (fun h => by cases h) (by rw [hZ7]; exact one_lies Y7 r.amt 2 _ rfl) (by rw [ll2]; have := unhide HF; simp; omega)
          rw [ll2] at r9 A10
          simp only [List.length_singleton] at r9 A10
          rw [hZ7] at r9
          obtain ⟨X10, hX10⟩ : ∃ X, X = w9.setCell ⟨W.heap.size, 1, none⟩ (.slice p9 (m + i + 1) c9) := ⟨_, rfl⟩
          rw [← hX10] at A10
          have HFIN : Hid (Ap W X10 (.slice p6 (m + i + 1) c6) (.slice p9 (m + i + 1) c9) (Ns ++ accR (R.take (i + 1))) (As ++ amtR (R.take (i + 1))) ∧ ∀ r ∈ R.take (i + 1), okP r) := by
            rw [unhide HTK]
            refine ⟨by simpa [accR, amtR, List.append_assoc] using A10, fun x hx => ?_⟩
            rcases List.mem_append.1 hx with hx | hx
            · exact unhide HOK x hx
            · rw [List.mem_singleton] at hx; rw [hx]; exact unhide HOP
          have u1 : Y.cell? ⟨W.heap.size, 0, none⟩ = some vn := (unhide A5).c0
          have u2 : Y.cell? ⟨b, off + i * 9 + 5, none⟩ = some (.string r.acc) := keep1 (unhide A5).bel (unhide HBL) (unhide HG5)
          have u3 : (Y.alloc (.cells #[.string r.acc] 9)).cell? ⟨W.heap.size, 0, none⟩ = some vn := by rw [← hZ]; exact A6.c0
          have u4 : (Y.alloc (.cells #[.string r.acc] 9)).cell? ⟨b, off + i * 9 + 5, none⟩ = some (.string r.acc) := by rw [← hZ]; exact keep1 A6.bel (unhide HBL) (unhide HG5)
          have u5 : w6.cell? ⟨b, off + i * 9 + 5, none⟩ = some (.string r.acc) := keep1 b6 (unhide HBL) (unhide HG5)
          have t1 : Y7.cell? ⟨W.heap.size, 1, none⟩ = some va := (unhide A8).c1
          have t2 : Y7.cell? ⟨b, off + i * 9 + 6, none⟩ = some (.int .i64 r.amt) := keep1 (unhide A8).bel (unhide HBL) (unhide HG6)
          have t3 : (Y7.alloc (.cells #[.int .i64 r.amt] 2)).cell? ⟨W.heap.size, 1, none⟩ = some va := by rw [← hZ7]; exact A9.c1
          have t4 : (Y7.alloc (.cells #[.int .i64 r.amt] 2)).cell? ⟨b, off + i * 9 + 6, none⟩ = some (.int .i64 r.amt) := by rw [← hZ7]; exact keep1 A9.bel (unhide HBL) (unhide HG6)
          have t5 : w9.cell? ⟨b, off + i * 9 + 6, none⟩ = some (.int .i64 r.amt) := keep1 b9 (unhide HBL) (unhide HG6)
          have HR6 := hide r6; have HR9 := hide r9
          clear A6 A7 A9 A10 r6 r9 b6 b6' b9 b9' hZ hZ7 hbZ hbZ7 ll ll2 hmr A5 A8 hNR hMm
          go_upto_region 8 with (first | (go_at_call 88; refine (unhide dn).mono ?_; rintro e w5 ⟨rfl, hw⟩; rw [hw]; clear hw w5))
          go_upto_region 11 with (first | (go_at_call 89; refine (unhide d8).mono ?_; rintro e w6 ⟨rfl, hw⟩; rw [hw]; clear hw w6))
          clear dn d8 q5 q6
          refine wp_region_last (n := 14) (S := fun X => X.cell? ⟨W.heap.size, 0, none⟩ = some vn ∧ X.cell? ⟨b, off + i * 9 + 5, none⟩ = some (.string r.acc)) (by kernel_rfl) (by rw [← hY]; exact ⟨u1, u2⟩) (fun hHeld => ?_)
          rw [← hY] at hHeld ⊢
          clear hY
          refine tkW 0 ?_; refine tkW 1 ?_; refine tkW 2 ?_; refine tkW 3 ?_; refine tkS 4 ?_; refine tkW 5 ?_; refine tkW 6 ?_; refine tkW 7 ?_; refine tkW 8 ?_; refine tkS 9 ?_
          refine wpAnyL_one (i := 10) (by kernel_rfl) rfl (fun KK hK => ?_)
          go_simp
          refine hK.out _ _ ⟨u3, u4⟩ (fun hHeld => ?_)
          clear hK KK
          refine wpAnyL_one (i := 11) (by kernel_rfl) rfl (fun KK hK => ?_)
          refine step_append_run _ (by rfl) _ _ 83 (by rfl) _ _ _ _ (by rfl) (by rfl) (unhide HR6) ?_
          simp only [Act.put, List.setIfInBounds_toArray]
          refine hK.out _ _ ⟨e6, u5⟩ (fun hHeld => ?_)
          clear hK KK
          refine tkW 12 ?_; refine tkW 13 ?_
          clear hHeld
          refine wpAnyL_past (i := 14) (by kernel_rfl) rfl (by kernel_rfl) (fun KK hK => ?_)
          go_simp
          rw [← hX7]
          refine hK.out _ _ ?_
          clear hK KK hX7 e6 f6 u1 u2 u3 u4 u5 HR6
          refine wpAnyL_done (by kernel_rfl) ?_
          go_upto_region 12 with fail
          refine wp_region_last (n := 14) (S := fun X => X.cell? ⟨W.heap.size, 1, none⟩ = some va ∧ X.cell? ⟨b, off + i * 9 + 6, none⟩ = some (.int .i64 r.amt)) (by kernel_rfl) (by rw [← hY7]; exact ⟨t1, t2⟩) (fun hHeld => ?_)
          rw [← hY7] at hHeld ⊢
          clear hY7
          refine tkW 0 ?_; refine tkW 1 ?_; refine tkW 2 ?_; refine tkW 3 ?_; refine tkS 4 ?_; refine tkW 5 ?_; refine tkW 6 ?_; refine tkW 7 ?_; refine tkW 8 ?_; refine tkS 9 ?_
          refine wpAnyL_one (i := 10) (by kernel_rfl) rfl (fun KK hK => ?_)
          go_simp
          refine hK.out _ _ ⟨t3, t4⟩ (fun hHeld => ?_)
          clear hK KK
          refine wpAnyL_one (i := 11) (by kernel_rfl) rfl (fun KK hK => ?_)
          refine step_append_run _ (by rfl) _ _ 84 (by rfl) _ _ _ _ (by rfl) (by rfl) (unhide HR9) ?_
          simp only [Act.put, List.setIfInBounds_toArray]
          refine hK.out _ _ ⟨e9, t5⟩ (fun hHeld => ?_)
          clear hK KK
          refine tkW 12 ?_; refine tkW 13 ?_
          clear hHeld
          refine wpAnyL_past (i := 14) (by kernel_rfl) rfl (by kernel_rfl) (fun KK hK => ?_)
          go_simp
          rw [← hX10]
          refine hK.out _ _ ?_
          clear hK KK hX10 e9 f9 t1 t2 t3 t4 t5 HR9
          refine wpAnyL_done (by kernel_rfl) ?_
          go_wp2_with fail
          exact ⟨⟨i + 1, _, _, by omega, by go_num, unhide HFIN⟩, by simp [intOf]; omega⟩
    · have hin : i = N := by omega
      have hI : ¬ (i : Int) < (N : Int) := by omega
      have e1 : R.take i = R := by rw [hin, unhide HN, List.take_length]
      rw [e1] at hA hok
      have hlen : (As ++ amtR R).length = (Ns ++ accR R).length := by simp [amtR, accR, unhide HMA, unhide HM]
      have hRd := hA.rd hlen (by simp [accR]; exact unhide HF) (fun x hx => by
        rcases List.mem_append.1 hx with hx | hx
        · exact (unhide HR).am x hx
        · obtain ⟨r, hr, rfl⟩ := List.mem_map.1 hx; exact (hok r hr).2) (fun x hx => by
        rcases List.mem_append.1 hx with hx | hx
        · exact (unhide HR).nm x hx
        · obtain ⟨r, hr, rfl⟩ := List.mem_map.1 hx; exact unhide HNM r hr)
      have d13 := hide (rsides_any hRd)
      have hse := sidS_err (Ns ++ accR R) (As ++ amtR R)
      obtain ⟨s1, hs1⟩ : ∃ s, s = (sidS (Ns ++ accR R) (As ++ amtR R)).1 := ⟨_, rfl⟩
      obtain ⟨s2, hs2⟩ : ∃ s, s = (sidS (Ns ++ accR R) (As ++ amtR R)).2.1 := ⟨_, rfl⟩
      obtain ⟨s3, hs3⟩ : ∃ s, s = (sidS (Ns ++ accR R) (As ++ amtR R)).2.2 := ⟨_, rfl⟩
      rw [← hs1, ← hs2, ← hs3] at d13
      rw [← hs3] at hse
      have HS3 := hide hs3; have HA := hide hA; have HOK := hide hok; have HRD := hide hRd
      clear hrel hA hok hRd e1 hs1 hs2 hs3 hlen
      go_upto_region 14 with (first | (go_at_call 90; refine (unhide d13).mono ?_; rintro e w5 ⟨rfl, hw5⟩))
      have A5 := hide ((unhide HA).below hw5)
      rcases hse with rfl | rfl
      case inr =>
        clear hw5 d13
        go_wp2_with fail
        go_ret
        exact .inr (.inl ⟨unhide HOK, by rw [← unhide HS3]; decide, rfl, (unhide A5).bel⟩)
      case inl =>
        obtain ⟨pv, cv, ev, _⟩ := row_slice (unhide A5).rn
        obtain ⟨pw, cw, ew, _⟩ := row_slice (unhide A5).ra
        obtain ⟨l1, hl1⟩ : ∃ n, n = (Ns ++ accR R).length := ⟨_, rfl⟩
        obtain ⟨l2, hl2⟩ : ∃ n, n = (As ++ amtR R).length := ⟨_, rfl⟩
        rw [← hl1] at ev
        rw [← hl2] at ew
        subst ev ew
        clear hl1 hl2
        obtain ⟨vn0, va0, hd0, _, _, _, _⟩ := (unhide HR).ex
        have hd5 : w5.heap[d]? = some (.cells #[vn0, va0] 86 (0, 0)) := ((unhide A5).bel.block d (unhide HDW)).trans hd0
        have c0 := (unhide A5).c0
        have g0 : w5.cell? ⟨d, 0, none⟩ = some vn0 := by rw [cell_at hd5]; rfl
        have g0f : w5.frozen? ⟨d, 0, none⟩ = false := froz_at hd5
        obtain ⟨X6, hX6⟩ : ∃ X, X = w5.setCell ⟨d, 0, none⟩ (.slice pv l1 cv) := ⟨_, rfl⟩
        have hd6 : X6.heap[d]? = some (.cells #[.slice pv l1 cv, va0] 86 (0, 0)) := by rw [hX6, set_heap hd5]; rfl
        have hdne : W.heap.size ≠ d := by have := unhide HDW; omega
        have h65 : ∀ q, q ≠ d → X6.heap[q]? = w5.heap[q]? := fun q hq => by rw [hX6]; exact Below.heap_setCell _ _ _ _ hq
        have c1 : X6.cell? ⟨W.heap.size, 1, none⟩ = some (.slice pw l2 cw) := by rw [cell_at ((h65 _ hdne).trans (unhide A5).b5)]; rfl
        have g1 : X6.cell? ⟨d, 1, none⟩ = some va0 := by rw [cell_at hd6]; rfl
        have g1f : X6.frozen? ⟨d, 1, none⟩ = false := froz_at hd6
        obtain ⟨X7, hX7⟩ : ∃ X, X = X6.setCell ⟨d, 1, none⟩ (.slice pw l2 cw) := ⟨_, rfl⟩
        have hd7 : X7.heap[d]? = some (.cells #[.slice pv l1 cv, .slice pw l2 cw] 86 (0, 0)) := by rw [hX7, set_heap hd6]; rfl
        have h75 : ∀ q, q ≠ d → X7.heap[q]? = w5.heap[q]? := fun q hq => by rw [hX7]; exact (Below.heap_setCell _ _ _ _ hq).trans (h65 q hq)
        have hs7 : X7.heap.size = w5.heap.size := by rw [hX7, hX6]; simp
        have HFIN : Hid (∃ S', Rd X7 d S' (Ns ++ accR R) (As ++ amtR R) ∧ Fr (fun q => q = d) W X7 ∧ ∀ q, S' q → S q ∨ W.heap.size ≤ q) := by
          have hvn : ∀ q, (Value.slice pv l1 cv).ownBlock = some q → W.heap.size < q ∧ q < w5.heap.size := fun q e => ⟨(row_block (unhide A5).rn e).1, (row_block (unhide A5).rn e).2.1⟩
          have hva : ∀ q, (Value.slice pw l2 cw).ownBlock = some q → W.heap.size < q ∧ q < w5.heap.size := fun q e => ⟨(row_block (unhide A5).ra e).1, (row_block (unhide A5).ra e).2.1⟩
          have hdl := unhide HDW
          refine ⟨fun q => q = d ∨ (Value.slice pv l1 cv).ownBlock = some q ∨ (Value.slice pw l2 cw).ownBlock = some q, ⟨⟨.slice pv l1 cv, .slice pw l2 cw, hd7, row_keep (row_le (unhide A5).rn (Nat.zero_le _)) (fun q e => h75 q (by have := hvn q e; omega)), row_keep (row_le (unhide A5).ra (Nat.zero_le _)) (fun q e => h75 q (by have := hva q e; omega)), fun q e => .inr (.inl e), fun q e => .inr (.inr e)⟩, .inl rfl, fun q hq => ?_, (unhide HRD).len, (unhide HRD).few, (unhide HRD).am, (unhide HRD).nm⟩, ⟨?_, ?_, ?_, ?_, fun q hq hne => ?_⟩, fun q hq => ?_⟩
          · rw [hs7]
            rcases hq with rfl | e | e
            · have := (unhide A5).lt; omega
            · exact (hvn q e).2
            · exact (hva q e).2
          · rw [hX7, hX6]; exact (unhide A5).bel.os
          · rw [hX7, hX6]; exact (unhide A5).bel.tape
          · rw [hX7, hX6]; exact (unhide A5).bel.output
          · rw [hs7]; exact (unhide A5).bel.size
          · exact (h75 q hne).trans ((unhide A5).bel.block q hq)
          · rcases hq with rfl | e | e
            · exact .inl (unhide HR).sd
            · exact .inr (by have := hvn q e; omega)
            · exact .inr (by have := hva q e; omega)
        clear hw5 d13 hd5 hd6 hd7 h65 h75 hs7 hd0
        go_upto_region 17 with fail
        rw [← hX6]
        clear hX6 c0 g0 g0f
        go_wp2_with fail
        rw [← hX7]
        clear hX7
        go_ret
        exact .inr (.inr ⟨unhide HOK, by rw [← unhide HS3], rfl, unhide HFIN⟩)
end Go.Proofs.YtpeefmbdhkfhmaaGreatDoor.Kg
/- The document's sums: lists that are a state, plain. -/
namespace Go.Proofs.YtpeefmbdhkfhmaaGreatDoor.Kg
open Go Go.RowKit Go.Shelf Go.ChangeShapes Go.WideShapes Go.ChangeAt Go.Maps
set_option linter.unusedVariables false
set_option linter.unusedSimpArgs false
set_option maxRecDepth 100000
set_option maxHeartbeats 8000000
/-- a balance told as a row -/
def rwB (b : Bl) : Ro := ⟨0, 0, 0, 0, ⟨#[]⟩, b.acc, b.own, ⟨#[]⟩, ⟨#[]⟩⟩
theorem eq38_ne {x y : Bl} (h : x ≠ y) (w : World) : (Op.equalIn 10000 38 (.agg #[.string x.acc, .int .i64 x.own, .int .i64 x.rol]) (.agg #[.string y.acc, .int .i64 y.own, .int .i64 y.rol])).run Tryz.prog w = .ok false w := by
  rw [run_equalIn_agg w 9999 38 _ _ st47 sh47]
  obtain ⟨f0, f1, f2, hf⟩ : ∃ f0 f1 f2, (Tryz.prog.fieldsOf 38).toList = [f0, f1, f2] := by
    have h := congrArg List.length fl47
    rw [List.length_map] at h
    match hq : (Tryz.prog.fieldsOf 38).toList, h with
    | [a, b, c], _ => exact ⟨a, b, c, rfl⟩
  have h' := fl47
  rw [hf] at h' ⊢
  simp at h'
  by_cases h1 : x.acc = y.acc
  · by_cases h2 : x.own = y.own
    · have h3 : ¬ x.rol = y.rol := fun h3 => h (by cases x; cases y; simp at h1 h2 h3; rw [h1, h2, h3])
      simp [Op.eqFields, go_sem, h', Tryz.underlying9, Tryz.underlying2, h1, h2, h3]
    · simp [Op.eqFields, go_sem, h', Tryz.underlying9, Tryz.underlying2, h1, h2]
  · have h4 := str_ne h1
    simp [Op.eqFields, go_sem, h', Tryz.underlying9, Tryz.underlying2, h4]
def nmB (X : List Bl) : List ByteArray := X.map (·.acc)
def owB (X : List Bl) : List Int := X.map (·.own)
/-- a list that is a state -/
def Good (X : List Bl) : Prop := (∀ x ∈ X, okP (rwB x)) ∧ (sidS (nmB X) (owB X)).2.2 = 0 ∧ stB (nmB X) (owB X) (stN (nmB X) (owB X) (accs (nmB X))) = X
theorem good_fits {X : List Bl} (h : Good X) : fits (rw8 (nmB X) (owB X)) := by
  by_cases hf : fits (rw8 (nmB X) (owB X))
  · exact hf
  · have := (sid_fits (nmB X) (owB X)).2 hf
    rw [h.2.1] at this
    omega
theorem stB_names (Ns : List ByteArray) (As : List Int) (N : List ByteArray) : nmB (stB Ns As N) = N := by
  unfold nmB stB
  rw [List.map_map]
  simp [Function.comp_def]
theorem good_ris {X : List Bl} (h : Good X) : Ris (nmB X) := by
  have hr := (stN_ris (good_fits h)).1
  have e := stB_names (nmB X) (owB X) (stN (nmB X) (owB X) (accs (nmB X)))
  rw [h.2.2] at e
  rw [e]
  exact hr
theorem good_next {X : List Bl} (h : Good X) {i : Nat} (hi : i + 1 < X.length) : X[i].acc.data.toList < X[i + 1].acc.data.toList := by
  have hr := good_ris h
  have := List.pairwise_iff_getElem.1 hr i (i + 1) (by simp [nmB]; omega) (by simp [nmB]; omega) (by omega)
  simpa [nmB] using this
theorem rows_names (X : List Bl) : accR (X.map rwB) = nmB X := by simp [accR, nmB, rwB, Function.comp_def]
theorem rows_owns (X : List Bl) : amtR (X.map rwB) = owB X := by simp [amtR, owB, rwB, Function.comp_def]
end Go.Proofs.YtpeefmbdhkfhmaaGreatDoor.Kg
