import Derived.Test.YtcafhmlpmbkhkaaGreatDoorW15
import Derived.Test.YtcafhmlpmbkhkaaGreatDoorW35
import Derived.Test.YtcafhmlpmbkhkaaGreatDoorW37
import Derived.Test.YtcafhmlpmbkhkaaGreatDoorW25
import Derived.Test.YtcafhmlpmbkhkaaGreatDoorW29
/- A statement: what it says. -/
namespace Go.Proofs.YtcafhmlpmbkhkaaGreatDoor
open Go Go.Shelf Go.ChangeShapes Go.WideShapes Go.ChangeAt Go.RowKit Go.Maps
set_option linter.unusedVariables false
set_option linter.unusedSimpArgs false
def amtL (X : List Qm) : List Int := X.map (·.amt)
def hdS : List Tx := [[75, 101, 121], [68, 97, 116, 101], [68, 117, 101], [79, 112, 101, 110], [68, 97, 121, 115]]
/-- a line of it -/
noncomputable def rowS (d : Nat) (t : Int) (x : Qm) : List Tx := [x.key.data.toList, dtx x.day, dtx x.due, txt x.amt d, ovd t x.due]
def sumS (d : Nat) (a : Int) : List Tx := [[83, 117, 109], [], [], txt a d]
noncomputable def rowsS (d : Nat) (t : Int) (X : List Qm) : List (List Tx) := [hdS] ++ X.map (rowS d t) ++ [sumS d (sumL (amtL X)).1]
def ag2 (d : Nat) (x : Lm) : List Tx := [x.lab.data.toList, txt x.amt d]
def secS (d : Nat) (L : List Lm) (s : Int) : List (List Tx) := L.map (ag2 d) ++ [[[83, 117, 109], txt s d]]
def hdrS (acc : ByteArray) : Tx := [83, 116, 97, 116, 101, 109, 101, 110, 116, 32, 111, 102, 32] ++ acc.data.toList ++ [32, 97, 116, 32]
noncomputable def staT (d : Nat) (acc : ByteArray) (X : List Qm) (A : List Int) (t : Int) : Tx :=
  hdrS acc ++ dtx t ++ [10] ++ gridT (rgt [0, 0, 0, 1, 1]) (rowsS d t X) ++ gridT (rgt [0, 1]) (secS d (agL (A.getD 0 0) (A.getD 1 0) (A.getD 2 0) (A.getD 3 0) (A.getD 4 0)) (sumL A).1)
/-- why there is none -/
def errS (dg : Int) (acc : ByteArray) (X : List Qm) (A : List Int) (t : Int) : Int :=
  if dg < 0 ∨ 6 < dg ∨ isDb t = false then 1 else if nameL acc.data.toList = false then 60 else if fstQ (faultQ acc) X ≠ 0 then fstQ (faultQ acc) X
  else if Lib.minOf A < 0 then 10 else orE (sumL (amtL X)).2 (sumL A).2
noncomputable def ansS (dg : Int) (acc : ByteArray) (X : List Qm) (A : List Int) (t : Int) : Tx × Int := if errS dg acc X A t = 0 then (staT dg.toNat acc X A t, 0) else ([], errS dg acc X A t)
/-- a claim that may come in -/
structure QmOk (x : Qm) : Prop where
  key : x.key.size ≤ 9223372036854775807
  day : -9223372036854775808 ≤ x.day ∧ x.day ≤ 9223372036854775807
  due : -9223372036854775808 ≤ x.due ∧ x.due ≤ 9223372036854775807
  amt : -9223372036854775808 ≤ x.amt ∧ x.amt ≤ 9223372036854775807
structure QmFine (x : Qm) : Prop where
  key : x.key.size ≤ 24
  day : isD x.day
  due : isD x.due
  amt : 1 ≤ x.amt ∧ x.amt ≤ 9223372036854775807
theorem qfine_of {acc : ByteArray} {x : Qm} (h : QmOk x) (hf : faultQ acc x = 0) : QmFine x := by
  unfold faultQ at hf
  by_cases h1 : x.acc = acc
  · rw [if_pos h1] at hf
    by_cases h2 : goodQ x = true
    · unfold goodQ at h2
      simp only [Bool.and_eq_true, decide_eq_true_eq] at h2
      obtain ⟨⟨⟨hk, hd⟩, hu⟩, ha⟩ := h2
      refine ⟨?_, (isDb_iff _).1 hd, (isDb_iff _).1 hu, ha, h.amt.2⟩
      unfold keyS at hk
      simp only [Bool.and_eq_true, decide_eq_true_eq] at hk
      exact hk.1.2
    · rw [if_neg h2] at hf
      exact absurd hf (by decide)
  · rw [if_neg h1] at hf
    exact absurd hf (by decide)
theorem qfine_all {acc : ByteArray} {X : List Qm} (h : ∀ x ∈ X, QmOk x) (hf : fstQ (faultQ acc) X = 0) : ∀ x ∈ X, QmFine x := fun x hx => qfine_of (h x hx) (fstQ_zero hf x hx)
theorem amtL_pos {X : List Qm} (h : ∀ x ∈ X, QmFine x) : ∀ z ∈ amtL X, 0 ≤ z := fun z hz => by
  obtain ⟨x, hx, rfl⟩ := List.mem_map.1 hz
  have := (h x hx).amt.1
  omega
theorem dtx_len (n : Int) : (dtx n).length ≤ 100 := by
  unfold dtx
  split
  · simp [Dy.tx, Dy.p4, Dy.p2]
  · simp
theorem ovd_len {t u : Int} (h1 : isD t) (h2 : isD u) : (ovd t u).length ≤ 100 := by
  unfold ovd
  split
  · simp
  · have g1 := fmt_len (t - u).natAbs (by obtain ⟨a, b⟩ := h1; obtain ⟨c, d⟩ := h2; omega)
    have g2 := fmt_len (t - u).toNat (by obtain ⟨a, b⟩ := h1; obtain ⟨c, d⟩ := h2; omega)
    unfold Lib.itoa
    split <;> simp <;> omega
theorem rowsS_len (d : Nat) (t : Int) (X : List Qm) : ∀ r ∈ rowsS d t X, r.length ≤ 5 := by
  intro r hr
  unfold rowsS at hr
  rw [List.mem_append, List.mem_append, List.mem_singleton, List.mem_singleton] at hr
  rcases hr with (rfl | hr) | rfl
  · exact Nat.le_refl _
  · obtain ⟨x, hx, rfl⟩ := List.mem_map.1 hr
    exact Nat.le_refl _
  · show 4 ≤ 5; omega
theorem rowsS_count (d : Nat) (t : Int) (X : List Qm) : (rowsS d t X).length = X.length + 2 := by simp [rowsS]
theorem rowsS_cell {d : Nat} (hd : d ≤ 6) {t : Int} (ht : isD t) {X : List Qm} (h : ∀ x ∈ X, QmFine x) : ∀ r ∈ rowsS d t X, ∀ c ∈ r, c.length ≤ 200 := by
  intro r hr c hc
  unfold rowsS at hr
  rw [List.mem_append, List.mem_append, List.mem_singleton, List.mem_singleton] at hr
  rcases hr with (rfl | hr) | rfl
  · simp [hdS] at hc
    rcases hc with rfl | rfl | rfl | rfl | rfl <;> simp
  · obtain ⟨x, hx, rfl⟩ := List.mem_map.1 hr
    have f := h x hx
    simp [rowS] at hc
    rcases hc with rfl | rfl | rfl | rfl | rfl
    · have := f.key
      have e : x.key.data.toList.length = x.key.size := by simp
      simp only [Array.length_toList] at e ⊢
      omega
    · have := dtx_len x.day; omega
    · have := dtx_len x.due; omega
    · have := txt_len x.amt d hd; omega
    · have := ovd_len ht f.due; omega
  · simp [sumS] at hc
    rcases hc with rfl | rfl | rfl
    · simp
    · simp
    · have := txt_len (sumL (amtL X)).1 d hd; omega
theorem secS_len (d : Nat) (L : List Lm) (s : Int) : ∀ r ∈ secS d L s, r.length ≤ 2 := by
  intro r hr
  unfold secS at hr
  rw [List.mem_append, List.mem_singleton] at hr
  rcases hr with hr | rfl
  · obtain ⟨x, hx, rfl⟩ := List.mem_map.1 hr
    exact Nat.le_refl _
  · exact Nat.le_refl _
theorem secS_cell {d : Nat} (hd : d ≤ 6) {L : List Lm} (h : ∀ x ∈ L, x.lab.size ≤ 200) (s : Int) : ∀ r ∈ secS d L s, ∀ c ∈ r, c.length ≤ 200 := by
  intro r hr c hc
  unfold secS at hr
  rw [List.mem_append, List.mem_singleton] at hr
  rcases hr with hr | rfl
  · obtain ⟨x, hx, rfl⟩ := List.mem_map.1 hr
    simp [ag2] at hc
    rcases hc with rfl | rfl
    · have := h x hx
      have e : x.lab.data.toList.length = x.lab.size := by simp
      simp only [Array.length_toList] at e ⊢
      omega
    · have := txt_len x.amt d hd; omega
  · simp at hc
    rcases hc with rfl | rfl
    · simp
    · have := txt_len s d hd; omega
theorem agL_lab (a0 a1 a2 a3 a4 : Int) : ∀ x ∈ agL a0 a1 a2 a3 a4, x.lab.size ≤ 200 := by
  intro x hx
  simp only [agL, List.mem_cons, List.not_mem_nil, or_false] at hx
  rcases hx with rfl | rfl | rfl | rfl | rfl <;> (show (txB _).size ≤ 200; rw [txB_len]; decide)
end Go.Proofs.YtcafhmlpmbkhkaaGreatDoor
/- The document's Statement: number 98, what a round leaves. -/
namespace Go.Proofs.YtcafhmlpmbkhkaaGreatDoor
open Go Go.Shelf Go.ChangeShapes Go.WideShapes Go.ChangeAt Go.RowKit Go.Maps
set_option linter.unusedVariables false
set_option linter.unusedSimpArgs false
set_option maxHeartbeats 1000000 in
/-- a number above 0 as a text -/
theorem rnum_any (v : Nat) (h0 : 0 < v) (h1 : v ≤ 9223372036854775807) (w : World) : Calls Tryz.prog 98 #[.int .i64 (v : Int)] w (TxtOut w (Lib.itoa (v : Int))) := by
  have D := digits_any v 1 w h1 (by decide)
  rw [dmin_one 39 v (by omega), ← Lib.itoa_nonneg] at D
  have D := hide D
  have hv : (v : Int) ≥ 0 := by omega
  go_enter Tryz.func98, Tryz.ntmps98
  go_wp2_with fail
  refine (unhide D).mono ?_
  rintro e w1 ⟨rfl, hb⟩
  have HB := hide hb
  clear hb D
  go_wp2_with fail
  go_ret
  exact ⟨rfl, unhide HB⟩
theorem step_append_run {P : Program} {ops : Array Oper} {o : Oper} {a : Act} {K : Act → World → Prop} {Q : Exit → Act → World → Prop} {E : Prop} (w : World) (hgd : o.guard = none) (s x : Operand) (t : TypeId)
    (ho : o.op = .call { callee := .builtin .append, args := #[s, x], argTypes := #[t, t] }) (v u v' : Value) (w' : World) (hs : a.eval s = v) (hx : a.eval x = u) (hr : (Builtin.append_ #[t, t] o.type #[v, u]).run P w = .ok v' w')
    (h : K (a.put o.dst v') w') : if Region.wanted o (yielded ops a.tmps) = true then Oper.wp P o a w K Q else E := by
  have hw : Region.wanted o (yielded ops a.tmps) = true := by simp [Region.wanted, hgd]
  rw [if_pos hw]
  unfold Oper.wp execOp
  simp only [ho, resolve, invoke, builtin, Sem.run_bind, Sem.run_pure, Result.andThen_ok, List.map_toArray, List.map_cons, List.map_nil, hs, hx, hr]
  exact h
/-- a round's head -/
structure RsAt (w : World) (d : Nat) (t : Int) (A : List Qm) (n : Nat) (vo vr : Value) (wr : World) : Prop where
  len : A.length = n
  oo : wr.ownsRow w.heap.size 2 1 vo n (kN.flat (amtL A))
  rl : Rl w.heap.size wr vr ([hdS] ++ A.map (rowS d t))
  bel : Below w.heap.size w wr
theorem RsAt.below {w wr W : World} {d n : Nat} {t : Int} {A : List Qm} {vo vr : Value} (h : RsAt w d t A n vo vr wr) (hb : Below wr.heap.size wr W) : RsAt w d t A n vo vr W :=
  ⟨h.len, own_below h.oo hb, h.rl.below hb, h.bel.trans (hb.mono h.bel.size)⟩
/-- the amount appended -/
theorem rs_amt {w W : World} {d n : Nat} {t : Int} {A : List Qm} {vo vr : Value} (h : RsAt w d t A n vo vr W) (x : Qm) (hn : n + 1 ≤ 1099511627776) :
    ∃ po co w2, (Builtin.append_ #[92, 92] 92 #[vo, .slice (some ⟨W.heap.size, 0, none⟩) 1 1]).run Tryz.prog (W.alloc (.cells #[.int .i64 x.amt] 2)) = .ok (.slice po (n + 1) co) w2 ∧ K2 W w2 ∧
      w2.ownsRow w.heap.size 2 1 (.slice po (n + 1) co) (n + 1) (kN.flat (amtL (A ++ [x]))) ∧ Below w.heap.size w w2 := by
  obtain ⟨po, co, w2, r1, o1, b1, k1, q1⟩ := amt_app h.oo h.bel.size x.amt hn
  have s12 : W.heap.size ≤ w2.heap.size := b1.size
  refine ⟨po, co, w2, r1, ⟨s12, fun k ys ty f hk h2 => k1 k (Array.getElem?_eq_some_iff.1 hk).1 (not_own h.oo hk h2)⟩, ?_, h.bel.trans b1⟩
  rw [show amtL (A ++ [x]) = amtL A ++ [x.amt] by simp [amtL]]
  exact o1
/-- the row appended -/
theorem rs_row {w W w2 Y : World} {d n : Nat} {t : Int} {A : List Qm} {vo vr vo' : Value} (h : RsAt w d t A n vo vr W) (hk : K2 W w2) {x : Qm} (ho : w2.ownsRow w.heap.size 2 1 vo' (n + 1) (kN.flat (amtL (A ++ [x])))) (hb : Below w.heap.size w w2)
    (hY : Below w2.heap.size w2 Y) {g : Nat} (hr : RowIs Y ⟨some ⟨g, 0, none⟩, 5, 5⟩ (rowS d t x)) (hn : n + 2 ≤ 1099511627776) :
    ∃ pr cr w4, (Builtin.append_ #[94, 94] 94 #[vr, .slice (some ⟨Y.heap.size, 0, none⟩) 1 1]).run Tryz.prog (Y.alloc (.cells #[.slice (some ⟨g, 0, none⟩) 5 5] 93)) = .ok (.slice pr (n + 2) cr) w4 ∧ RsAt w d t (A ++ [x]) (n + 1) vo' (.slice pr (n + 2) cr) w4 ∧
      (∀ (k : Nat) (ys : Array Value) (ty : TypeId) (f : Nat × Nat), Y.heap[k]? = some (Obj.cells ys ty f) → ty ≠ 93 → w4.heap[k]? = Y.heap[k]?) := by
  have hrl : Rl w.heap.size Y vr ([hdS] ++ A.map (rowS d t)) := (h.rl.k2 hk).below hY
  have hbY : Below w.heap.size w Y := hb.trans (hY.mono hb.size)
  have hlen : ([hdS] ++ A.map (rowS d t)).length = n + 1 := by simp [h.len]
  obtain ⟨pr, cr, w4, r, rl4, b4, k4⟩ := hrl.app hbY.size hr (by rw [hlen]; exact hn)
  rw [hlen] at r rl4
  have hvr : ∀ (g : Nat) (ys : Array Value) (ty : TypeId) (f : Nat × Nat), Y.heap[g]? = some (Obj.cells ys ty f) → ty ≠ 93 → vr.ownBlock ≠ some g := fun g ys ty f hgy ht => by
    obtain ⟨L, hL⟩ := hrl
    exact not_own hL.own hgy ht
  have hk4 : ∀ (k : Nat) (ys : Array Value) (ty : TypeId) (f : Nat × Nat), Y.heap[k]? = some (Obj.cells ys ty f) → ty ≠ 93 → w4.heap[k]? = Y.heap[k]? := fun k ys ty f hk ht => k4 k (Array.getElem?_eq_some_iff.1 hk).1 (hvr k ys ty f hk ht)
  refine ⟨pr, cr, w4, r, ⟨by simp [h.len], ?_, ?_, hbY.trans b4⟩, hk4⟩
  · have hoY := own_below ho hY
    refine row_keep hoY (fun g hg => ?_)
    obtain ⟨ys, hy⟩ := own_obj hoY hg
    exact hk4 g ys 2 _ hy (by decide)
  · rw [List.map_append, ← List.append_assoc]
    exact rl4
end Go.Proofs.YtcafhmlpmbkhkaaGreatDoor
/- The grid's set (84): a row for each of a list of claims. -/
namespace Go.Proofs.YtcafhmlpmbkhkaaGreatDoor
open Go Go.Shelf Go.ChangeShapes Go.WideShapes Go.ChangeAt Go.RowKit Go.Maps
set_option linter.unusedVariables false
set_option linter.unusedSimpArgs false
attribute [local go_sem ↓] ldQ_is
set_option maxRecDepth 100000 in
set_option maxHeartbeats 8000000 in
theorem setQ {B : Nat} {w0 : World} {d : Nat} {S : List Int} {R : List (List Tx)} (h : Gr B w0 d S R) {p : Option Addr} {n c : Nat} {X : List Qm} (hX : X.length = n) (hL : ∀ W, Gd B w0 W → Lies kQ W p X) {fb fo nf cf : Nat} {FS : List (Value × (Qm → Tx))} (hnf : FS.length = nf)
    (hF : ∀ W, Gd B w0 W → ∀ j q, FS[j]? = some q → W.cell? ⟨fb, fo + j, none⟩ = some q.1) {ok : Qm → Prop} (hok : ∀ x ∈ X, ok x) (hfn : ∀ q ∈ FS, FnOK cvQ ok (Gd B w0) q.1 q.2) (hn : R.length + n ≤ 1099511627776) (hf1 : nf ≤ 1048576) :
    Calls Tryz.prog 84 #[.pointer (some ⟨d, 0, none⟩), .slice p n c, .slice (some ⟨fb, fo, none⟩) nf cf] w0 (SetOut B w0 d S R FS X) := by
  have hBw : B ≤ w0.heap.size := by
    obtain ⟨ps, cs, pr, cr, L, g⟩ := h
    exact Nat.le_trans g.low (Nat.le_of_lt (Array.getElem?_eq_some_iff.1 g.cell).1)
  have H := hide h; have HX := hide hX; have HL := hide hL; have HNF := hide hnf; have HF := hide hF; have HOK := hide hok; have HFN := hide hfn; have HN := hide hn; have HBW := hide hBw
  have HMK : Hid (∀ W : World, (Instr.makeSlice 93 (.int .i64 (nf : Int)) (.int .i64 (nf : Int))).run Tryz.prog W = .ok (.slice (some ⟨W.heap.size, 0, none⟩) nf nf) (W.alloc (.cells (madeCells (Value.string ⟨#[]⟩).cells (nf * 1)) 9))) := fun W : World => run_mk (z := .string ⟨#[]⟩) (s := 1) (b := 16) W 93 9 Tryz.underlying93 (by kernel_rfl) nf (by omega) (by omega)
  have hn1 : n ≤ 1099511627776 := by omega
  clear h hX hL hnf hF hok hfn hn hBw
  go_enter Tryz.func84, Tryz.ntmps84
  go_wp2_with fail
  go_loopw [13] (fun iv wr => ∃ (k : Nat) (K : Int), k ≤ n ∧ iv = .int .i64 K ∧ K = (k : Int) ∧ Hid (Gr B wr d S (R ++ (X.take k).map (rowF FS)) ∧ Gd B w0 wr)) (fun iv _ => ((n : Int) - intOf iv).toNat)
  case atStart => exact ⟨0, 0, by omega, rfl, rfl, by simpa using unhide H, Gd.refl _ _⟩
  case round =>
    obtain ⟨wo, rfl⟩ : ∃ x, x = wr := ⟨wr, rfl⟩
    obtain ⟨k, K, hk, rfl, hK, HA⟩ := hrel
    by_cases hlt : k < n
    · have hI : K < (n : Int) := by omega
      have hK0 : 0 ≤ K := by omega
      have hKt : K.toNat = k := by omega
      have hkX : k < X.length := by have := unhide HX; omega
      obtain ⟨b, o, ep, hb, hld⟩ := (unhide HL wo (unhide HA).2).ldQ hkX
      obtain ⟨x, hx⟩ : ∃ x, x = X[k] := ⟨_, rfl⟩
      rw [← hx] at hld
      have hxm : x ∈ X := by rw [hx]; exact List.getElem_mem hkX
      have HOX := hide (unhide HOK x hxm)
      have HTK : Hid (X.take (k + 1) = X.take k ++ [x]) := by rw [List.take_succ_eq_append_getElem hkX, ← hx]; rfl
      subst ep
      obtain ⟨w1, hw1⟩ : ∃ w1, w1 = wo.alloc (obQ x) := ⟨_, rfl⟩
      obtain ⟨w2, hw2⟩ : ∃ w2, w2 = w1.alloc (.cells (madeCells (Value.string ⟨#[]⟩).cells (nf * 1)) 9) := ⟨_, rfl⟩
      have hlr : (rowF FS x).length = nf := by rw [rowF_len, unhide HNF]
      have A0 : CsAt w1 (rowF FS x) 0 w1.heap.size w2 := by
        have := CsAt.begin w1 (rowF FS x) (by omega)
        rwa [hlr, ← hw2] at this
      have b1 : Below wo.heap.size wo w1 := by rw [hw1]; exact bal (Below.refl _ _) _
      have HA0 := hide A0; have HB1 := hide b1
      have HLV : Hid (∀ W, Below w1.heap.size w1 W → (ldQ (.pointer (some ⟨wo.heap.size, 0, none⟩))).run Tryz.prog W = .ok (cvQ x) W) := fun W hb => by rw [hw1] at hb; exact ld_varQ wo x hb
      have HW1 := hide hw1; have HW2 := hide hw2
      have HK := hide hK
      have hmk1 := unhide HMK w1
      rw [← hw2] at hmk1
      obtain ⟨vx, hvx⟩ : ∃ v, v = cvQ x := ⟨_, rfl⟩
      have hst : ∀ q : Nat, True := fun _ => trivial
      have HVX := hide hvx
      have HLR := hide hlr
      have hw1' : wo.alloc (.cells #[.string x.key, .string x.acc, .int .i64 x.day, .int .i64 x.due, .int .i64 x.amt] 53) = w1 := by rw [hw1]; rfl
      unfold cvQ at hld
      clear A0 b1 hw1 hw2 hkX hlt hK hvx hlr hxm hx hst
      go_upto_region 3 with fail
      have hmk2 : (Instr.makeSlice 93 (.int .i64 (nf : Int)) (.int .i64 (nf : Int))).run Tryz.prog w1 = .ok (.slice (some ⟨w1.heap.size, 0, none⟩) nf nf) w2 := hmk1
      clear hld hmk1 hw1'
      go_wp2_with fail
      go_loopw [22] (fun iv wr => ∃ (j : Nat) (J : Int), j ≤ nf ∧ iv = .int .i64 J ∧ J = (j : Int) ∧ Hid (CsAt w1 (rowF FS x) j w1.heap.size wr)) (fun iv _ => ((nf : Int) - intOf iv).toNat)
      case atStart => exact ⟨0, 0, by omega, rfl, rfl, unhide HA0⟩
      case round =>
        obtain ⟨wi, rfl⟩ : ∃ x, x = wr := ⟨wr, rfl⟩
        obtain ⟨j, J, hj, rfl, hJ, HC⟩ := hrel
        clear hmk2
        have hgd : Gd B w0 wi := (unhide HA).2.trans (Gd.of_below ((unhide HB1).trans ((unhide HC).bel.mono (unhide HB1).size)) (Nat.le_trans (unhide HBW) (unhide HA).2.bel.size))
        by_cases hjl : j < nf
        · have hJl : J < (nf : Int) := by omega
          have hJ0 : 0 ≤ J := by omega
          have hJt : J.toNat = j := by omega
          obtain ⟨q, hq⟩ : ∃ q, FS[j]? = some q := ⟨FS[j]'(by have := unhide HNF; omega), List.getElem?_eq_getElem _⟩
          have hcell := unhide HF wi hgd j q hq
          have hqm := List.mem_of_getElem? hq
          obtain ⟨g, eg, hsh⟩ := unhide HFN q hqm
          have hld := unhide HLV wi (unhide HC).bel
          have HTX : Hid ((rowF FS x)[j]? = some (q.2 x)) := by show _ = _; rw [rowF, List.getElem?_map, hq]; rfl
          have HJ := hide hJ
          rcases hsh with ⟨efv, hcall⟩ | ⟨bd, efv, hcall⟩ | ⟨cp, efv, hcall⟩
          · have d := hide (hcall x wi (unhide HOX) hgd)
            rw [← unhide HVX] at hld
            rw [efv] at hcell
            rw [← unhide HVX] at d
            clear efv hcall hgd hq hqm hJ
            go_wp2_with fail
            refine (unhide d).mono ?_
            rintro e w3 ⟨rfl, hb3⟩
            have hC3 := (unhide HC).below hb3
            have st3 : w3.cell? ⟨w1.heap.size, j, none⟩ ≠ none := by
              rw [hC3.own.cellAt j (by have := unhide HLR; omega), kT_flat, List.getElem?_map, List.getElem?_eq_getElem (by rw [midF_len _ _ (by have := unhide HLR; omega)]; have := unhide HLR; omega)]
              simp
            obtain ⟨u3, hu3⟩ := Option.ne_none_iff_exists'.1 st3
            have fr3 : w3.frozen? ⟨w1.heap.size, j, none⟩ = false := hC3.own.frozenAt j
            have HS := hide (hC3.set (unhide HTX))
            obtain ⟨TX, hTX⟩ : ∃ v, v = txB (q.2 x) := ⟨_, rfl⟩
            rw [← hTX] at HS ⊢
            clear hb3 hC3 st3 d hcell hld hTX
            go_wp2_with fail
            exact ⟨⟨j + 1, J + 1, by omega, by go_num, by have := unhide HJ; omega, unhide HS⟩, by simp [intOf]; omega⟩
          · have d := hide (hcall x wi (unhide HOX) hgd)
            rw [← unhide HVX] at hld
            rw [efv] at hcell
            rw [← unhide HVX] at d
            clear efv hcall hgd hq hqm hJ
            go_wp2_with fail
            refine (unhide d).mono ?_
            rintro e w3 ⟨rfl, hb3⟩
            have hC3 := (unhide HC).below hb3
            have st3 : w3.cell? ⟨w1.heap.size, j, none⟩ ≠ none := by
              rw [hC3.own.cellAt j (by have := unhide HLR; omega), kT_flat, List.getElem?_map, List.getElem?_eq_getElem (by rw [midF_len _ _ (by have := unhide HLR; omega)]; have := unhide HLR; omega)]
              simp
            obtain ⟨u3, hu3⟩ := Option.ne_none_iff_exists'.1 st3
            have fr3 : w3.frozen? ⟨w1.heap.size, j, none⟩ = false := hC3.own.frozenAt j
            have HS := hide (hC3.set (unhide HTX))
            obtain ⟨TX, hTX⟩ : ∃ v, v = txB (q.2 x) := ⟨_, rfl⟩
            rw [← hTX] at HS ⊢
            clear hb3 hC3 st3 d hcell hld hTX
            go_wp2_with fail
            exact ⟨⟨j + 1, J + 1, by omega, by go_num, by have := unhide HJ; omega, unhide HS⟩, by simp [intOf]; omega⟩
          · have d := hide (hcall x wi (unhide HOX) hgd)
            rw [← unhide HVX] at hld
            rw [efv] at hcell
            rw [← unhide HVX] at d
            clear efv hcall hgd hq hqm hJ
            go_wp2_with fail
            refine (unhide d).mono ?_
            rintro e w3 ⟨rfl, hb3⟩
            have hC3 := (unhide HC).below hb3
            have st3 : w3.cell? ⟨w1.heap.size, j, none⟩ ≠ none := by
              rw [hC3.own.cellAt j (by have := unhide HLR; omega), kT_flat, List.getElem?_map, List.getElem?_eq_getElem (by rw [midF_len _ _ (by have := unhide HLR; omega)]; have := unhide HLR; omega)]
              simp
            obtain ⟨u3, hu3⟩ := Option.ne_none_iff_exists'.1 st3
            have fr3 : w3.frozen? ⟨w1.heap.size, j, none⟩ = false := hC3.own.frozenAt j
            have HS := hide (hC3.set (unhide HTX))
            obtain ⟨TX, hTX⟩ : ∃ v, v = txB (q.2 x) := ⟨_, rfl⟩
            rw [← hTX] at HS ⊢
            clear hb3 hC3 st3 d hcell hld hTX
            go_wp2_with fail
            exact ⟨⟨j + 1, J + 1, by omega, by go_num, by have := unhide HJ; omega, unhide HS⟩, by simp [intOf]; omega⟩
        · have hJl : ¬ J < (nf : Int) := by omega
          have ej : j = (rowF FS x).length := by have := unhide HLR; omega
          have hC := unhide HC
          rw [ej] at hC
          have hr := hC.row
          rw [unhide HLR] at hr
          have hnR : (R ++ (X.take k).map (rowF FS)).length + 1 ≤ 1099511627776 := by
            have := unhide HN; have := unhide HX; have := unhide HK
            rw [List.length_append, List.length_map, List.length_take]
            omega
          have D := hide (add_any (((unhide HA).1.below ((unhide HB1).trans (hC.bel.mono (unhide HB1).size)))) hr hnR)
          have HGD := hide hgd
          clear hr hC hJ hgd ej hnR
          go_wp2_with fail
          refine (unhide D).mono ?_
          rintro e w3 ⟨⟨v3, rfl⟩, hg3, hd3⟩
          have HE : Hid (Gr B w3 d S (R ++ (X.take (k + 1)).map (rowF FS)) ∧ Gd B w0 w3) := by
            refine ⟨?_, (unhide HGD).trans hd3⟩
            rw [unhide HTK, List.map_append, ← List.append_assoc]
            exact hg3
          clear hg3 hd3 D
          go_wp2_with fail
          exact ⟨⟨k + 1, K + 1, by have := unhide HK; omega, by go_num, by have := unhide HK; omega, unhide HE⟩, by have := unhide HK; simp [intOf]; omega⟩
    · have hI : ¬ K < (n : Int) := by omega
      have HE : Hid (Gr B wo d S (R ++ X.map (rowF FS)) ∧ Gd B w0 wo) := by
        have h1 := unhide HA
        rw [List.take_of_length_le (by have := unhide HX; omega)] at h1
        exact h1
      clear HA hK
      go_wp2_with fail
      go_end0
      exact ⟨⟨_, rfl⟩, unhide HE⟩
end Go.Proofs.YtcafhmlpmbkhkaaGreatDoor
