import Derived.Test.YtmgnlgobkkfjhaaGreatDoorW09
import Derived.Test.YtmgnlgobkkfjhaaGreatDoorW13
import Derived.Test.YtmgnlgobkkfjhaaGreatDoorW06
/- The document's daily: New (11), Is (83), Apply (19). -/
namespace Go.Proofs.YtmgnlgobkkfjhaaGreatDoor.Kg
open Go Go.RowKit Go.Shelf Go.ChangeShapes Go.WideShapes Go.ChangeAt Go.Maps
set_option linter.unusedVariables false
set_option linter.unusedSimpArgs false
set_option maxRecDepth 100000
set_option maxHeartbeats 8000000
theorem rnew_any (W : World) : Calls Tryz.prog 11 #[] W fun e w' => e = .returned (.pointer (some ⟨W.heap.size, 0, none⟩)) ∧ w' = W.alloc (.cells #[.slice none 0 0] 82) := by
  go_enter Tryz.func11, Tryz.ntmps11
  go_wp2_with fail
  go_ret
  exact ⟨rfl, rfl⟩
theorem Rd.new (W : World) : Rd (W.alloc (.cells #[.slice none 0 0] 82)) W.heap.size (fun q => q = W.heap.size) [] :=
  ⟨⟨.slice none 0 0, heap_new _ _, World.ownsRow_nil _ _ _ _, (fun q e => by cases e)⟩, rfl, (fun q hq => by rw [hq]; simp), by simp, (fun r h => by cases h), (fun r h => by cases h), fun r h => by cases h⟩
def isD (x : Int) : Bool := decide (1 ≤ x) && decide (x ≤ 3652059)
theorem isd_any (x : Int) (W : World) : Calls Tryz.prog 83 #[.int .i64 x] W fun e w' => e = .returned (.bool (isD x)) ∧ w' = W := by
  unfold isD
  by_cases h1 : 1 ≤ x
  · by_cases h2 : x ≤ 3652059
    · rw [decide_eq_true h1, decide_eq_true h2]
      go_enter Tryz.func83, Tryz.ntmps83
      go_wp2_with fail
      go_ret
      exact ⟨rfl, rfl⟩
    · rw [decide_eq_true h1, decide_eq_false h2]
      go_enter Tryz.func83, Tryz.ntmps83
      go_wp2_with fail
      go_ret
      exact ⟨rfl, rfl⟩
  · rw [decide_eq_false h1]
    go_enter Tryz.func83, Tryz.ntmps83
    go_wp2_with fail
    go_ret
    exact ⟨rfl, rfl⟩
/-- the document's new view, being made at W's end -/
structure Ap (W wr : World) (v : Value) (R : List Ro) : Prop where
  b5 : wr.heap[W.heap.size]? = some (.cells #[v] 82 (0, 0))
  rn : wr.ownsRow (W.heap.size + 1) kQ.e kQ.s v R.length (kQ.flat (R.map rq))
  bel : Below W.heap.size W wr
theorem Ap.lt {W wr : World} {v : Value} {R : List Ro} (h : Ap W wr v R) : W.heap.size < wr.heap.size := (Array.getElem?_eq_some_iff.1 h.b5).1
theorem Ap.below {W wr w' : World} {v : Value} {R : List Ro} (h : Ap W wr v R) (hb : Below wr.heap.size wr w') : Ap W w' v R :=
  ⟨(hb.block _ h.lt).trans h.b5, row_keep h.rn (fun q e => hb.block q (row_block h.rn e).2.1), h.bel.trans (hb.mono h.bel.size)⟩
theorem Ap.more {W wr : World} {v : Value} {R M : List Ro} (h : Ap W wr v R) {pu : Option Addr} {cu : Nat} (hcu : pu = none → cu = 0) (hu : Lies kQ wr pu (M.map rq)) (hl : R.length + M.length ≤ 1099511627776) :
    ∃ p' c' w', (Builtin.append_ #[22, 22] 22 #[v, .slice pu M.length cu]).run Tryz.prog wr = .ok (.slice p' (R.length + M.length) c') w' ∧ w'.cell? ⟨W.heap.size, 0, none⟩ = some v ∧ w'.frozen? ⟨W.heap.size, 0, none⟩ = false ∧ Below W.heap.size W w' ∧ Below (W.heap.size + 1) wr w' ∧ Ap W (w'.setCell ⟨W.heap.size, 0, none⟩ (.slice p' (R.length + M.length) c')) (.slice p' (R.length + M.length) c') (R ++ M) := by
  have hlt := h.lt
  have hml : (M.map rq).length = M.length := List.length_map ..
  obtain ⟨p', c', w', hr, ho, hb, hfar, hown⟩ := run_app kQ_ok 22 (B := W.heap.size + 1) (L := R.map rq) (M := M.map rq) h.rn (by omega) pu cu hcu hu (by rw [hml]; omega)
  rw [hml] at hr ho
  have e5 : w'.heap[W.heap.size]? = some (.cells #[v] 82 (0, 0)) := (hb.block _ (by omega)).trans h.b5
  have hbW : Below W.heap.size W w' := h.bel.trans (hb.mono (by omega))
  refine ⟨p', c', w', hr, by rw [cell_at e5]; rfl, froz_at e5, hbW, hb, ?_⟩
  have hkeep : ∀ q, W.heap.size + 1 ≤ q → (w'.setCell ⟨W.heap.size, 0, none⟩ (.slice p' (R.length + M.length) c')).heap[q]? = w'.heap[q]? := fun q hq => Below.heap_setCell _ _ _ _ (by show q ≠ W.heap.size; omega)
  refine ⟨by rw [set_heap e5]; rfl, row_keep (by rw [List.length_append, List.map_append]; exact ho) (fun q e => hkeep q (row_block ho e).1), hbW.setCell (p := ⟨W.heap.size, 0, none⟩) (Nat.le_refl _) _⟩
theorem Ap.drew {W wr : World} {v : Value} {R : List Ro} (h : Ap W wr v R) : Ap W wr.drew v R := h.below (below_drewN (Below.refl _ wr) 1)
theorem Ap.c0 {W wr : World} {v : Value} {R : List Ro} (h : Ap W wr v R) : wr.cell? ⟨W.heap.size, 0, none⟩ = some v := by rw [cell_at h.b5]; rfl
theorem okR.am {r : Ro} (h : okR r) (hb : r.amt ≤ 9223372036854775807) : isAm r.amt := ⟨h.2.2.2, hb⟩
theorem Ap.rd {W wr : World} {v : Value} {R : List Ro} (h : Ap W wr v R) (few : R.length < 1099511627000) (am : ∀ r ∈ R, isAm r.amt) (dy : ∀ r ∈ R, 1 ≤ r.day ∧ r.day ≤ 3652059) (nm : ∀ r ∈ R, r.acc.size < 4611686018427387904) : Rd wr W.heap.size (fun q => q = W.heap.size ∨ v.ownBlock = some q) R :=
  ⟨⟨v, h.b5, row_le h.rn (Nat.zero_le _), fun q e => .inr e⟩, .inl rfl, fun q hq => by
    rcases hq with rfl | e
    · exact h.lt
    · exact (row_block h.rn e).2.1, few, am, dy, nm⟩
/-- what the document's Apply leaves -/
def ROut (W : World) (d : Nat) (S : Nat → Prop) (L R : List Ro) (e : Ending) (w' : World) : Prop :=
  (¬ (∀ r ∈ R, okR r) ∧ e = .returned (.int .i64 1) ∧ Below W.heap.size W w') ∨
  ((∀ r ∈ R, okR r) ∧ ¬ (∀ r ∈ L ++ R, okF (L ++ R) r) ∧ e = .returned (.int .i64 11) ∧ Below W.heap.size W w') ∨
  ((∀ r ∈ R, okR r) ∧ (∀ r ∈ L ++ R, okF (L ++ R) r) ∧ e = .returned (.int .i64 0) ∧ ∃ S', Rd w' d S' (L ++ R) ∧ Fs (fun q => q = d) W w' ∧ ∀ q, S' q → S q ∨ W.heap.size ≤ q)
theorem rapply_any {W : World} {d : Nat} {S : Nat → Prop} {L : List Ro} (hR : Rd W d S L) {p : Option Addr} {c : Nat} {R : List Ro} (hL : Lies kR W p R) (hfew : L.length + R.length < 1099511627000) (hnm : ∀ r ∈ R, r.acc.size < 4611686018427387904) (ham : ∀ r ∈ R, -9223372036854775808 ≤ r.amt ∧ r.amt ≤ 9223372036854775807) :
    Calls Tryz.prog 19 #[.pointer (some ⟨d, 0, none⟩), .slice p R.length c] W fun e w' => ROut W d S L R e w' := by
  obtain ⟨pn, cn, n0, ln, hpn⟩ := hR.list
  have hdW : d < W.heap.size := hR.lt d hR.sd
  obtain ⟨N, hN⟩ : ∃ N, N = R.length := ⟨_, rfl⟩
  obtain ⟨m, hm⟩ : ∃ m, m = L.length := ⟨_, rfl⟩
  have hNb : N ≤ 1099511627000 := by omega
  rw [← hm] at n0
  obtain ⟨W1, hW1⟩ : ∃ X, X = W.alloc (.cells #[.slice none 0 0] 82) := ⟨_, rfl⟩
  have hb1 : Below W.heap.size W W1 := by rw [hW1]; exact bal (Below.refl _ _) _
  have A0 : Hid (Ap W W1 (.slice none 0 0) []) := ⟨by rw [hW1]; exact heap_new _ _, World.ownsRow_nil _ _ _ _, hb1⟩
  obtain ⟨Y1, hY1⟩ : ∃ Y, Y = W1.drew := ⟨_, rfl⟩
  have A1 : Hid (Ap W Y1 (.slice none 0 0) []) := by rw [hY1]; exact (unhide A0).drew
  have k1 : Y1.cell? ⟨d, 0, none⟩ = some (.slice pn m cn) := keep1 (unhide A1).bel hdW n0
  obtain ⟨p2, c2, w2, r2, e2, f2, b2, b2', A2⟩ := (unhide A1).more (M := L) hpn (ln.below (unhide A1).bel) (by simp; omega)
  have k2 : w2.cell? ⟨d, 0, none⟩ = some (.slice pn m cn) := keep1 b2 hdW n0
  simp only [List.length_nil, Nat.zero_add, List.nil_append] at r2 A2
  rw [← hm] at r2 A2
  obtain ⟨X2, hX2⟩ : ∃ X, X = w2.setCell ⟨W.heap.size, 0, none⟩ (.slice p2 m c2) := ⟨_, rfl⟩
  rw [← hX2] at A2
  have HA4 := hide A2
  have y0 : Y1.cell? ⟨W.heap.size, 0, none⟩ = some (.slice none 0 0) := (unhide A1).c0
  have HR2 := hide r2; have HR := hide hR; have HL := hide hL; have HN := hide hN; have HM := hide hm; have HNM := hide hnm; have HAM := hide ham; have HF := hide hfew; have HDW := hide hdW
  rw [← hN]
  clear hR hL hN hm hnm ham hfew ln hpn n0 hb1 A2 r2 b2 b2' hdW
  go_enter Tryz.func19, Tryz.ntmps19
  go_upto_region 2 with fail
  rw [← hW1]
  clear hW1 A0
  refine wp_region_last (n := 12) (S := fun X => X.cell? ⟨W.heap.size, 0, none⟩ = some (.slice none 0 0) ∧ X.cell? ⟨d, 0, none⟩ = some (.slice pn m cn)) (by kernel_rfl) (by rw [← hY1]; exact ⟨y0, k1⟩) (fun hHeld => ?_)
  rw [← hY1] at hHeld ⊢
  clear hY1
  refine tkW 0 ?_; refine tkW 1 ?_; refine tkW 2 ?_; refine tkW 3 ?_; refine tkS 4 ?_; refine tkW 5 ?_; refine tkW 6 ?_; refine tkW 7 ?_; refine tkS 8 ?_
  refine wpAnyL_one (i := 9) (by kernel_rfl) rfl (fun KK hK => ?_)
  refine step_append_run _ (by rfl) _ _ 22 (by rfl) _ _ _ _ (by rfl) (by rfl) (unhide HR2) ?_
  simp only [Act.put, List.setIfInBounds_toArray]
  refine hK.out _ _ ⟨e2, k2⟩ (fun hHeld => ?_)
  clear hK KK
  refine tkW 10 ?_; refine tkW 11 ?_
  clear hHeld
  refine wpAnyL_past (i := 12) (by kernel_rfl) rfl (by kernel_rfl) (fun KK hK => ?_)
  go_simp
  rw [← hX2]
  refine hK.out _ _ ?_
  clear hK KK hX2 e2 f2 k2 y0 k1 HR2 A1
  refine wpAnyL_done (by kernel_rfl) ?_
  go_upto_region 4 with fail
  go_loopw [6] (fun v6 wr => ∃ (i : Nat) (v : Value), i ≤ N ∧ v6 = .int .i64 (i : Int) ∧ Hid (Ap W wr v (L ++ R.take i) ∧ ∀ r ∈ R.take i, okR r)) (fun v6 _ => N - (intOf v6).toNat)
  case atStart => exact ⟨0, _, by omega, rfl, by simpa using unhide HA4, fun r h => by simp at h⟩
  case round =>
    clear HA4
    obtain ⟨i, v, hi, rfl, hrel⟩ := hrel
    obtain ⟨hA, hok⟩ := unhide hrel
    by_cases hlt : i < N
    · have hiR : i < R.length := by rw [← unhide HN]; exact hlt
      obtain ⟨b, off, e, hbl, hr⟩ := (unhide HL).2 i hiR
      obtain ⟨r, hrr⟩ : ∃ r, r = R[i] := ⟨_, rfl⟩
      rw [← hrr] at hr
      have hrm : r ∈ R := by rw [hrr]; exact List.getElem_mem hiR
      have g2 : W.cell? ⟨b, off + i * 9 + 2, none⟩ = some (.int .i64 r.day) := hr 2 _ rfl
      have g5 : W.cell? ⟨b, off + i * 9 + 5, none⟩ = some (.string r.acc) := hr 5 _ rfl
      have g6 : W.cell? ⟨b, off + i * 9 + 6, none⟩ = some (.int .i64 r.amt) := hr 6 _ rfl
      have q2 := keep1 hA.bel hbl g2
      have q5 := keep1 hA.bel hbl g5
      have q6 := keep1 hA.bel hbl g6
      subst e
      have hI : (i : Int) < (N : Int) := by omega
      have hI0 : (0 : Int) ≤ (i : Int) := by omega
      have dn := hide (rname_any r.acc (by have := unhide HNM r hrm; omega) wr)
      have dd := hide (isd_any r.day wr)
      have tk : R.take (i + 1) = R.take i ++ [r] := by rw [hrr]; exact List.take_succ_eq_append_getElem hiR
      have HTK := hide tk; have HRM := hide hrm; have HOK := hide hok; have HBL := hide hbl; have HG2 := hide g2; have HG5 := hide g5; have HG6 := hide g6
      have hmr := unhide HAM r hrm
      obtain ⟨nb, hnb⟩ : ∃ nb, nb = nameL r.acc.data.toList := ⟨_, rfl⟩
      obtain ⟨db, hdb⟩ : ∃ db, db = isD r.day := ⟨_, rfl⟩
      rw [← hnb] at dn
      rw [← hdb] at dd
      obtain ⟨ab, hab⟩ : ∃ ab : Bool, (ab = true ↔ -9223372036854775807 ≤ r.amt) ∧ Calls Tryz.prog 84 #[.int .i64 r.amt] wr fun e w' => e = .returned (.bool ab) ∧ w' = wr := by
        by_cases h : r.amt = -9223372036854775808
        · exact ⟨false, ⟨(fun e => by cases e), (fun e => by omega)⟩, by rw [h]; exact Mw.is_no wr⟩
        · exact ⟨true, ⟨(fun _ => by omega), fun _ => rfl⟩, Mw.is_yes r.amt wr (by omega)⟩
      have da := hide hab.2
      have HOR : Hid (okR r ↔ nb = true ∧ db = true ∧ ab = true) := by
        rw [hnb, hdb, hab.1]
        unfold okR isD
        simp only [Bool.and_eq_true, decide_eq_true_eq]
        constructor
        · rintro ⟨a, b, c, d⟩; exact ⟨a, ⟨b, c⟩, d⟩
        · rintro ⟨a, ⟨b, c⟩, d⟩; exact ⟨a, b, c, d⟩
      have HA := hide hA
      clear hrel hok hr hrr hrm hiR tk hbl g2 g5 g6 hnb hdb hab
      by_cases hall : nb = true ∧ db = true ∧ ab = true
      · obtain ⟨rfl, rfl, rfl⟩ := hall
        have HOP : Hid (okR r) := (unhide HOR).2 ⟨rfl, rfl, rfl⟩
        obtain ⟨Y, hY⟩ : ∃ Y, Y = wr.drew := ⟨_, rfl⟩
        have A5 : Hid (Ap W Y v (L ++ R.take i)) := by rw [hY]; exact (unhide HA).drew
        obtain ⟨Z, hZ⟩ : ∃ Z, Z = Y.alloc (.cells #[.string r.acc, .int .i64 r.day, .int .i64 r.amt, .int .i64 0] 38) := ⟨_, rfl⟩
        have hbZ : Below Y.heap.size Y Z := by rw [hZ]; exact bal (Below.refl _ _) _
        have A6 := (unhide A5).below hbZ
        have hNR : N = R.length := unhide HN
        have hMm : m = L.length := unhide HM
        have ll : (L ++ R.take i).length = m + i := by rw [List.length_append, List.length_take, ← hMm, ← hNR]; omega
        obtain ⟨p6, c6, w6, r6, e6, f6, b6, b6', A7⟩ := A6.more (pu := some ⟨Y.heap.size, 0, none⟩) (cu := 1) (M := [r]) (fun h => by cases h) (by rw [hZ]; exact one_lies Y (rq r) 38 _ rfl) (by rw [ll]; have := unhide HF; simp; omega)
        rw [ll] at r6 A7
        simp only [List.length_singleton] at r6 A7
        rw [hZ] at r6
        obtain ⟨X7, hX7⟩ : ∃ X, X = w6.setCell ⟨W.heap.size, 0, none⟩ (.slice p6 (m + i + 1) c6) := ⟨_, rfl⟩
        rw [← hX7] at A7
        have HFIN : Hid (Ap W X7 (.slice p6 (m + i + 1) c6) (L ++ R.take (i + 1)) ∧ ∀ r ∈ R.take (i + 1), okR r) := by
          rw [unhide HTK]
          refine ⟨by rw [← List.append_assoc]; exact A7, fun x hx => ?_⟩
          rcases List.mem_append.1 hx with hx | hx
          · exact unhide HOK x hx
          · rw [List.mem_singleton] at hx; rw [hx]; exact unhide HOP
        have HK : Hid (∀ X, Below W.heap.size W X → X.cell? ⟨b, off + i * 9 + 5, none⟩ = some (.string r.acc) ∧ X.cell? ⟨b, off + i * 9 + 2, none⟩ = some (.int .i64 r.day) ∧ X.cell? ⟨b, off + i * 9 + 6, none⟩ = some (.int .i64 r.amt)) := fun X hX => ⟨keep1 hX (unhide HBL) (unhide HG5), keep1 hX (unhide HBL) (unhide HG2), keep1 hX (unhide HBL) (unhide HG6)⟩
        have u1 : Y.cell? ⟨W.heap.size, 0, none⟩ = some v := (unhide A5).c0
        have u2 := unhide HK Y (unhide A5).bel
        have u3 : (Y.alloc (.cells #[.string r.acc, .int .i64 r.day, .int .i64 r.amt, .int .i64 0] 38)).cell? ⟨W.heap.size, 0, none⟩ = some v := by rw [← hZ]; exact A6.c0
        have u4 := unhide HK (Y.alloc (.cells #[.string r.acc, .int .i64 r.day, .int .i64 r.amt, .int .i64 0] 38)) (by rw [← hZ]; exact A6.bel)
        have u5 := unhide HK w6 b6
        have HR6 := hide r6
        obtain ⟨xs, hxs⟩ : ∃ y, y = r.acc := ⟨_, rfl⟩
        obtain ⟨xd, hxd⟩ : ∃ y, y = r.day := ⟨_, rfl⟩
        obtain ⟨xa, hxa⟩ : ∃ y, y = r.amt := ⟨_, rfl⟩
        rw [← hxs] at q5 dn
        rw [← hxd] at q2 dd
        rw [← hxa] at q6 da
        rw [← hxs, ← hxd, ← hxa] at u2 u3 u4 u5 HR6
        clear A6 A7 r6 b6 b6' hZ hbZ ll hmr A5 hNR hMm HOR HK HBL HG2 HG5 HG6 HOP hxs hxd hxa
        go_upto_region 9 with (first | (go_at_call 82; refine (unhide dn).mono ?_; rintro e w5 ⟨rfl, hw⟩; rw [hw]; clear hw w5) | (go_at_call 83; refine (unhide dd).mono ?_; rintro e w5 ⟨rfl, hw⟩; rw [hw]; clear hw w5) | (go_at_call 84; refine (unhide da).mono ?_; rintro e w5 ⟨rfl, hw⟩; rw [hw]; clear hw w5))
        clear dn dd da q2 q5 q6
        go_upto_region 11 with fail
        refine wp_region_last (n := 25) (S := fun X => X.cell? ⟨W.heap.size, 0, none⟩ = some v ∧ X.cell? ⟨b, off + i * 9 + 5, none⟩ = some (.string xs) ∧ X.cell? ⟨b, off + i * 9 + 2, none⟩ = some (.int .i64 xd) ∧ X.cell? ⟨b, off + i * 9 + 6, none⟩ = some (.int .i64 xa)) (by kernel_rfl) (by rw [← hY]; exact ⟨u1, u2⟩) (fun hHeld => ?_)
        rw [← hY] at hHeld ⊢
        clear hY
        refine tkW 0 ?_; refine tkW 1 ?_; refine tkW 2 ?_; refine tkW 3 ?_; refine tkS 4 ?_; refine tkW 5 ?_; refine tkW 6 ?_; refine tkW 7 ?_; refine tkW 8 ?_; refine tkS 9 ?_
        refine tkW 10 ?_; refine tkW 11 ?_; refine tkW 12 ?_; refine tkW 13 ?_; refine tkS 14 ?_; refine tkW 15 ?_; refine tkW 16 ?_; refine tkW 17 ?_; refine tkW 18 ?_; refine tkS 19 ?_
        refine tkW 20 ?_
        refine wpAnyL_one (i := 21) (by kernel_rfl) rfl (fun KK hK => ?_)
        go_simp
        refine hK.out _ _ ⟨u3, u4⟩ (fun hHeld => ?_)
        clear hK KK
        refine wpAnyL_one (i := 22) (by kernel_rfl) rfl (fun KK hK => ?_)
        refine step_append_run _ (by rfl) _ _ 22 (by rfl) _ _ _ _ (by rfl) (by rfl) (unhide HR6) ?_
        simp only [Act.put, List.setIfInBounds_toArray]
        refine hK.out _ _ ⟨e6, u5⟩ (fun hHeld => ?_)
        clear hK KK
        refine tkW 23 ?_; refine tkW 24 ?_
        clear hHeld
        refine wpAnyL_past (i := 25) (by kernel_rfl) rfl (by kernel_rfl) (fun KK hK => ?_)
        go_simp
        rw [← hX7]
        refine hK.out _ _ ?_
        clear hK KK hX7 e6 f6 u1 u2 u3 u4 u5 HR6
        refine wpAnyL_done (by kernel_rfl) ?_
        go_wp2_with fail
        exact ⟨⟨i + 1, _, by omega, by go_num, unhide HFIN⟩, by simp [intOf]; omega⟩
      · have HO : Hid (ROut W d S L R (.returned (.int .i64 1)) wr) := .inl ⟨fun h => hall ((unhide HOR).1 (h r (unhide HRM))), rfl, (unhide HA).bel⟩
        obtain ⟨xs, hxs⟩ : ∃ y, y = r.acc := ⟨_, rfl⟩
        obtain ⟨xd, hxd⟩ : ∃ y, y = r.day := ⟨_, rfl⟩
        obtain ⟨xa, hxa⟩ : ∃ y, y = r.amt := ⟨_, rfl⟩
        rw [← hxs] at q5 dn
        rw [← hxd] at q2 dd
        rw [← hxa] at q6 da
        clear HOR HBL HG2 HG5 HG6 hxs hxd hxa hmr
        cases nb <;> cases db <;> cases ab <;> first | exact absurd ⟨rfl, rfl, rfl⟩ hall | skip
        all_goals
          clear hall
          go_wp2_with (first | (go_at_call 82; refine (unhide dn).mono ?_; rintro e w5 ⟨rfl, hw⟩; rw [hw]; clear hw w5) | (go_at_call 83; refine (unhide dd).mono ?_; rintro e w5 ⟨rfl, hw⟩; rw [hw]; clear hw w5) | (go_at_call 84; refine (unhide da).mono ?_; rintro e w5 ⟨rfl, hw⟩; rw [hw]; clear hw w5))
          go_ret
          exact unhide HO
    · have hin : i = N := by omega
      have hI : ¬ (i : Int) < (N : Int) := by omega
      have e1 : R.take i = R := by rw [hin, unhide HN, List.take_length]
      rw [e1] at hA hok
      have hRd := hA.rd (by rw [List.length_append]; exact unhide HF) (fun x hx => by
        rcases List.mem_append.1 hx with hx | hx
        · exact (unhide HR).am x hx
        · exact okR.am (hok x hx) (unhide HAM x hx).2) (fun x hx => by
        rcases List.mem_append.1 hx with hx | hx
        · exact (unhide HR).dy x hx
        · exact ⟨(hok x hx).2.1, (hok x hx).2.2.1⟩) (fun x hx => by
        rcases List.mem_append.1 hx with hx | hx
        · exact (unhide HR).nm x hx
        · exact unhide HNM x hx)
      have d13 := hide (fits_any hRd)
      have HA := hide hA; have HOK := hide hok; have HRD := hide hRd
      clear hrel hA hok hRd e1
      go_upto_region 13 with (first | (go_at_call 85; refine (unhide d13).mono ?_; rintro e w5 ⟨⟨bb, rfl, hbb⟩, hw5⟩))
      have A5 := hide ((unhide HA).below hw5)
      have HBB := hide hbb
      clear hbb
      cases bb
      case false =>
        clear hw5 d13
        have HO : Hid (ROut W d S L R (.returned (.int .i64 11)) w5) := .inr (.inl ⟨unhide HOK, (fun h => by have := (unhide HBB).2 h; cases this), rfl, (unhide A5).bel⟩)
        go_wp2_with fail
        go_ret
        exact unhide HO
      case true =>
        obtain ⟨pv, cv, ev, _⟩ := row_slice (unhide A5).rn
        obtain ⟨l1, hl1⟩ : ∃ n, n = (L ++ R).length := ⟨_, rfl⟩
        rw [← hl1] at ev
        subst ev
        clear hl1
        obtain ⟨vn0, hd0, _, _⟩ := (unhide HR).ex
        have hd5 : w5.heap[d]? = some (.cells #[vn0] 82 (0, 0)) := ((unhide A5).bel.block d (unhide HDW)).trans hd0
        have c0 := (unhide A5).c0
        have g0 : w5.cell? ⟨d, 0, none⟩ = some vn0 := by rw [cell_at hd5]; rfl
        have g0f : w5.frozen? ⟨d, 0, none⟩ = false := froz_at hd5
        obtain ⟨X6, hX6⟩ : ∃ X, X = w5.setCell ⟨d, 0, none⟩ (.slice pv l1 cv) := ⟨_, rfl⟩
        have hd6 : X6.heap[d]? = some (.cells #[.slice pv l1 cv] 82 (0, 0)) := by rw [hX6, set_heap hd5]; rfl
        have h65 : ∀ q, q ≠ d → X6.heap[q]? = w5.heap[q]? := fun q hq => by rw [hX6]; exact Below.heap_setCell _ _ _ _ hq
        have hs7 : X6.heap.size = w5.heap.size := by rw [hX6]; simp
        have HFIN : Hid (∃ S', Rd X6 d S' (L ++ R) ∧ Fs (fun q => q = d) W X6 ∧ ∀ q, S' q → S q ∨ W.heap.size ≤ q) := by
          have hvn : ∀ q, (Value.slice pv l1 cv).ownBlock = some q → W.heap.size < q ∧ q < w5.heap.size := fun q e => ⟨(row_block (unhide A5).rn e).1, (row_block (unhide A5).rn e).2.1⟩
          have hdl := unhide HDW
          refine ⟨fun q => q = d ∨ (Value.slice pv l1 cv).ownBlock = some q, ⟨⟨.slice pv l1 cv, hd6, row_keep (row_le (unhide A5).rn (Nat.zero_le _)) (fun q e => h65 q (by have := hvn q e; omega)), fun q e => .inr e⟩, .inl rfl, fun q hq => ?_, (unhide HRD).few, (unhide HRD).am, (unhide HRD).dy, (unhide HRD).nm⟩, ⟨?_, ?_, ?_, ?_, fun q hq hne => ?_⟩, fun q hq => ?_⟩
          · rw [hs7]
            rcases hq with rfl | e
            · have := (unhide A5).lt; omega
            · exact (hvn q e).2
          · rw [hX6]; exact (unhide A5).bel.os
          · rw [hX6]; exact (unhide A5).bel.tape
          · rw [hX6]; exact (unhide A5).bel.output
          · rw [hs7]; exact (unhide A5).bel.size
          · exact (h65 q hne).trans ((unhide A5).bel.block q hq)
          · rcases hq with rfl | e
            · exact .inl (unhide HR).sd
            · exact .inr (by have := hvn q e; omega)
        have HO : Hid (ROut W d S L R (.returned (.int .i64 0)) X6) := .inr (.inr ⟨unhide HOK, (unhide HBB).1 rfl, rfl, unhide HFIN⟩)
        clear hw5 d13 hd5 hd6 h65 hs7 hd0 HFIN
        go_wp2_with fail
        rw [← hX6]
        clear hX6
        go_ret
        exact unhide HO
end Go.Proofs.YtmgnlgobkkfjhaaGreatDoor.Kg
