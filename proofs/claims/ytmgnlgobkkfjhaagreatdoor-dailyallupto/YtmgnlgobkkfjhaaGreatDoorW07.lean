import Derived.Test.YtmgnlgobkkfjhaaGreatDoorW04
import Derived.Test.YtmgnlgobkkfjhaaGreatDoorW06
import Derived.Shelf.Abstract
/- The document's daily: the view; change (90). -/
namespace Go.Proofs.YtmgnlgobkkfjhaaGreatDoor.Kg
open Go Go.RowKit Go.Shelf Go.ChangeShapes Go.WideShapes Go.ChangeAt Go.Maps
set_option linter.unusedVariables false
set_option linter.unusedSimpArgs false
set_option maxRecDepth 100000
set_option maxHeartbeats 8000000
/-- a list that the call has made since wb -/
structure Ml {α : Type} (K : Kd α) (wb w : World) (v : Value) (M : List α) : Prop where
  row : w.ownsRow wb.heap.size K.e K.s v M.length (K.flat M)
  bel : Below wb.heap.size wb w
theorem Ml.below {α : Type} {K : Kd α} {wb w w' : World} {v : Value} {M : List α} (h : Ml K wb w v M) (hb : Below w.heap.size w w') : Ml K wb w' v M :=
  ⟨row_keep h.row (fun b e => hb.block b (row_block h.row e).2.1), h.bel.trans (hb.mono h.bel.size)⟩
theorem Ml.nil {α : Type} (K : Kd α) {wb w : World} (h : Below wb.heap.size wb w) : Ml K wb w (.slice none 0 0) [] := ⟨World.ownsRow_nil _ _ _ _, h⟩
/-- one more behind it -/
theorem Ml.more {α : Type} {K : Kd α} (hK : KdOK K) {wb w : World} {v : Value} {M : List α} (h : Ml K wb w v M) (hl : M.length < 1099511627776) (x : α) (vs : Array Value) (hv : vs.toList = K.enc x) (ty t : TypeId) :
    ∃ p' c' w', (Builtin.append_ #[K.t, K.t] ty #[v, .slice (some ⟨w.heap.size, 0, none⟩) 1 1]).run Tryz.prog (w.alloc (.cells vs t)) = .ok (.slice p' (M.length + 1) c') w' ∧ Ml K wb w' (.slice p' (M.length + 1) c') (M ++ [x]) := by
  obtain ⟨Z, hZ⟩ : ∃ Z, Z = w.alloc (.cells vs t) := ⟨_, rfl⟩
  have hZ1 : Below w.heap.size w Z := by rw [hZ]; exact (Below.refl _ _).alloc (Nat.le_refl _) _
  have hu : Lies K Z (some ⟨w.heap.size, 0, none⟩) [x] := by rw [hZ]; exact one_lies w x t _ hv
  have hm := h.below hZ1
  obtain ⟨p', c', w', hr, ho, hb, _, _⟩ := run_app hK ty (W := Z) (B := wb.heap.size) (M := [x]) hm.row hm.bel.size (some ⟨w.heap.size, 0, none⟩) 1 (fun h => by cases h) hu (by simp; omega)
  simp only [List.length_singleton] at hr ho
  rw [← hZ]
  exact ⟨p', c', w', hr, ⟨by rw [List.length_append, List.length_singleton]; exact ho, hm.bel.trans hb⟩⟩
theorem str_ne {x s : ByteArray} (h : ¬ x = s) : (x.toList == s.toList) = false := by
  rw [ByteArray.toList_eq, ByteArray.toList_eq, beq_eq_false_iff_ne]
  intro e
  apply h
  cases x; cases s
  simp only [ByteArray.mk.injEq]
  exact Array.toList_inj.1 e
/-- the document's Sum of a list that lies somewhere -/
theorem rsum_lies {W : World} {p : Option Addr} {c n : Nat} {L : List Int} (hn : L.length = n) (hl : n ≤ 9223372036854775807) (hL : Lies kI W p L) (ha : ∀ a ∈ L, -9223372036854775808 ≤ a ∧ a ≤ 9223372036854775807) :
    Calls Tryz.prog 168 #[.slice p n c] W fun e w' => e = .returned (.tuple #[.int .i64 (Mw.sumSpec (fun k => L.getD k 0) n).1, .int .i64 (Mw.sumSpec (fun k => L.getD k 0) n).2]) ∧ Below W.heap.size W w' := by
  by_cases h0 : n = 0
  · subst h0
    exact Mw.rsum_zero _ p c W
  · obtain ⟨b, off, e, hbl, _⟩ := hL.2 0 (by omega)
    subst e
    refine Mw.rsum_any _ b off n c hl (fun k hk => ?_) W (fun k hk => ?_) hbl
    · have hk' : k < L.length := by omega
      have : L.getD k 0 = L[k] := by simp [hk']
      rw [this]
      exact ha _ (List.getElem_mem hk')
    · have hk' : k < L.length := by omega
      have e1 : L.getD k 0 = L[k] := by simp [hk']
      obtain ⟨b', off', e2, _, hr⟩ := hL.2 k hk'
      cases e2
      rw [e1]
      have := hr 0 _ rfl
      simpa [kI] using this
def isAm (a : Int) : Prop := -9223372036854775807 ≤ a ∧ a ≤ 9223372036854775807
/-- what the document's Sum answers of amounts -/
def sumL (L : List Int) : Int × Int := if -9223372036854775807 ≤ L.sum ∧ L.sum ≤ 9223372036854775807 then (L.sum, 0) else (0, 11)
theorem anyMin_no {L : List Int} (h : ∀ a ∈ L, isAm a) : ∀ n, n ≤ L.length → Mw.anyMin (fun k => L.getD k 0) n = false := by
  intro n
  induction n with
  | zero => intro _; rfl
  | succ n ih =>
    intro hn
    have hl : n < L.length := by omega
    have e : L.getD n 0 = L[n] := by simp [hl]
    have := h _ (List.getElem_mem hl)
    unfold isAm at this
    simp only [Mw.anyMin, ih (by omega), e]
    simp
    omega
theorem sumZ_sum (L : List Int) : ∀ n, n ≤ L.length → Mw.sumZ (fun k => L.getD k 0) n = (L.take n).sum := by
  intro n
  induction n with
  | zero => intro _; rfl
  | succ n ih =>
    intro hn
    have hl : n < L.length := by omega
    have e : L.getD n 0 = L[n] := by simp [hl]
    rw [List.take_succ_eq_append_getElem hl, List.sum_append, ← ih (by omega)]
    simp [Mw.sumZ, hl]
theorem sumSpec_L {L : List Int} (h : ∀ a ∈ L, isAm a) : Mw.sumSpec (fun k => L.getD k 0) L.length = sumL L := by
  have h1 := anyMin_no h L.length (Nat.le_refl _)
  have h2 := sumZ_sum L L.length (Nat.le_refl _)
  rw [List.take_length] at h2
  unfold sumL
  by_cases hc : -9223372036854775807 ≤ L.sum ∧ L.sum ≤ 9223372036854775807
  · rw [if_pos hc, Mw.sumSpec_fits h1 (by rw [h2]; omega) (by rw [h2]; omega), h2]
  · rw [if_neg hc, Mw.sumSpec_over h1 (by rw [h2]; omega)]
theorem sumL_am (L : List Int) : isAm (sumL L).1 := by
  unfold sumL
  split
  · assumption
  · unfold isAm; omega
theorem rsum_L {W : World} {p : Option Addr} {c n : Nat} {L : List Int} (hn : L.length = n) (hl : n ≤ 9223372036854775807) (hL : Lies kI W p L) (ha : ∀ a ∈ L, isAm a) :
    Calls Tryz.prog 168 #[.slice p n c] W fun e w' => e = .returned (.tuple #[.int .i64 (sumL L).1, .int .i64 (sumL L).2]) ∧ Below W.heap.size W w' := by
  have h := rsum_lies (c := c) hn hl hL (fun a h => by have := ha a h; unfold isAm at this; omega)
  rw [← hn, sumSpec_L ha] at h
  rw [← hn]
  exact h
theorem sumL_err (L : List Int) : (sumL L).2 = 0 ∨ (sumL L).2 = 11 := by
  unfold sumL
  split
  · exact .inl rfl
  · exact .inr rfl
theorem set_heap {w : World} {b i : Nat} {cs : Array Value} {y : Value} {t : TypeId} (h : w.heap[b]? = some (.cells cs t (0, 0))) : (w.setCell ⟨b, i, none⟩ y).heap[b]? = some (.cells (cs.setIfInBounds i y) t (0, 0)) := by
  simp [World.setCell, Array.getElem?_modify, h]
/-- what stands outside S is as it was -/
structure Fs (S : Nat → Prop) (W w' : World) : Prop where
  os : w'.os = W.os
  tape : w'.tape = W.tape
  output : w'.output = W.output
  size : W.heap.size ≤ w'.heap.size
  block : ∀ q, q < W.heap.size → ¬ S q → w'.heap[q]? = W.heap[q]?
/-- a row as the document keeps it -/
def rq (r : Ro) : Dq := ⟨r.acc, r.day, r.amt, 0⟩
/-- the document's view at d: the rows that were told; its own blocks lie within S -/
structure Rd (W : World) (d : Nat) (S : Nat → Prop) (R : List Ro) : Prop where
  ex : ∃ v, W.heap[d]? = some (.cells #[v] 82 (0, 0)) ∧ W.ownsRow 0 kQ.e kQ.s v R.length (kQ.flat (R.map rq)) ∧ (∀ q, v.ownBlock = some q → S q)
  sd : S d
  lt : ∀ q, S q → q < W.heap.size
  few : R.length < 1099511627000
  am : ∀ r ∈ R, isAm r.amt
  dy : ∀ r ∈ R, 1 ≤ r.day ∧ r.day ≤ 3652059
  nm : ∀ r ∈ R, r.acc.size < 4611686018427387904
theorem Rd.keep {W W' : World} {d : Nat} {S : Nat → Prop} {R : List Ro} (h : Rd W d S R) (hz : W.heap.size ≤ W'.heap.size) (hb : ∀ q, S q → W'.heap[q]? = W.heap[q]?) : Rd W' d S R := by
  obtain ⟨v, h1, h2, h3⟩ := h.ex
  exact ⟨⟨v, (hb d h.sd).trans h1, row_keep h2 (fun q hq => hb q (h3 q hq)), h3⟩, h.sd, fun q hq => Nat.lt_of_lt_of_le (h.lt q hq) hz, h.few, h.am, h.dy, h.nm⟩
theorem Rd.below {W W' : World} {d : Nat} {S : Nat → Prop} {R : List Ro} (h : Rd W d S R) (hb : Below W.heap.size W W') : Rd W' d S R := h.keep hb.size (fun q hq => hb.block q (h.lt q hq))
theorem Rd.list {W : World} {d : Nat} {S : Nat → Prop} {R : List Ro} (h : Rd W d S R) : ∃ p c, W.cell? ⟨d, 0, none⟩ = some (.slice p R.length c) ∧ Lies kQ W p (R.map rq) ∧ (p = none → c = 0) := by
  obtain ⟨v, h1, h2, _⟩ := h.ex
  obtain ⟨p, c, e1, n1, _⟩ := row_slice h2
  subst e1
  exact ⟨p, c, by rw [cell_at h1]; rfl, own_lies kQ_ok (by rw [List.length_map]) h2, fun e => (n1 e).2⟩
/-- the cells of a row -/
theorem Rd.row {W : World} {p : Option Addr} {R : List Ro} (h : Lies kQ W p (R.map rq)) {i : Nat} (hi : i < R.length) : ∃ b off, p = some ⟨b, off, none⟩ ∧ b < W.heap.size ∧ W.cell? ⟨b, off + i * 4, none⟩ = some (.string R[i].acc) ∧ W.cell? ⟨b, off + i * 4 + 1, none⟩ = some (.int .i64 R[i].day) ∧ W.cell? ⟨b, off + i * 4 + 2, none⟩ = some (.int .i64 R[i].amt) ∧ W.cell? ⟨b, off + i * 4 + 3, none⟩ = some (.int .i64 0) := by
  obtain ⟨b, off, e, hb, hr⟩ := h.2 i (by rw [List.length_map]; exact hi)
  rw [List.getElem_map] at hr
  exact ⟨b, off, e, hb, by simpa [kQ] using hr 0 (.string R[i].acc) rfl, by simpa [kQ] using hr 1 (.int .i64 R[i].day) rfl, by simpa [kQ] using hr 2 (.int .i64 R[i].amt) rfl, by simpa [kQ] using hr 3 (.int .i64 0) rfl⟩
/-- the amounts of an account on some days -/
def inS (s : ByteArray) (a b : Int) (r : Ro) : Bool := decide (r.acc = s) && (decide (a ≤ r.day) && decide (r.day ≤ b))
def amtS (R : List Ro) (s : ByteArray) (a b : Int) : List Int := (R.filter (inS s a b)).map (·.amt)
theorem amtS_succ {R : List Ro} (s : ByteArray) (a b : Int) {i : Nat} (h : i < R.length) : amtS (R.take (i + 1)) s a b = amtS (R.take i) s a b ++ (if inS s a b R[i] = true then [R[i].amt] else []) := by
  unfold amtS
  rw [List.take_succ_eq_append_getElem h, List.filter_append, List.map_append]
  congr 1
  by_cases h : inS s a b R[i] = true
  · simp [h]
  · simp [h]
theorem amtS_len (R : List Ro) (s : ByteArray) (a b : Int) : (amtS R s a b).length ≤ R.length := by
  unfold amtS
  rw [List.length_map]
  exact List.length_filter_le _ _
theorem amtS_mem {R : List Ro} {s : ByteArray} {a b x : Int} (h : x ∈ amtS R s a b) : ∃ r ∈ R, r.amt = x := by
  unfold amtS at h
  obtain ⟨p, hp, rfl⟩ := List.mem_map.1 h
  exact ⟨p, (List.mem_filter.1 hp).1, rfl⟩
theorem change_any {W : World} {d : Nat} {S : Nat → Prop} {R : List Ro} (hR : Rd W d S R) (s : ByteArray) (fr tt : Int) :
    Calls Tryz.prog 90 #[.pointer (some ⟨d, 0, none⟩), .string s, .int .i64 fr, .int .i64 tt] W fun e w' => e = .returned (.tuple #[.int .i64 (sumL (amtS R s fr tt)).1, .int .i64 (sumL (amtS R s fr tt)).2]) ∧ Below W.heap.size W w' := by
  obtain ⟨pn, cn, c0, hl0, _⟩ := hR.list
  have hdl : d < W.heap.size := hR.lt d hR.sd
  have hfew := hR.few
  obtain ⟨n, hn⟩ : ∃ n, n = R.length := ⟨_, rfl⟩
  rw [← hn] at c0 hfew
  have HC : Hid (∀ w', Below W.heap.size W w' → w'.cell? ⟨d, 0, none⟩ = some (.slice pn n cn)) := fun w' hb => keep1 hb hdl c0
  have HL := hide hl0; have HN := hide hn; have HAM := hide hR.am
  clear hR hl0 hn c0
  go_enter Tryz.func90, Tryz.ntmps90
  go_wp2_with fail
  go_loopw [10, 11] (fun v10 v11 wr => ∃ (i m : Nat) (p6 : Option Addr) (c6 : Nat), v11 = .int .i64 i ∧ v10 = .slice p6 m c6 ∧ i ≤ n ∧ Hid ((amtS (R.take i) s fr tt).length = m ∧ Ml kI W wr v10 (amtS (R.take i) s fr tt))) (fun _ v11 _ => n - (intOf v11).toNat)
  case atStart => exact ⟨0, 0, none, 0, rfl, rfl, by omega, rfl, Ml.nil _ (Below.refl _ _)⟩
  case round =>
    obtain ⟨i, m, p6, c6, rfl, rfl, hi, hrel⟩ := hrel
    obtain ⟨hm, hml⟩ := unhide hrel
    have q0 := unhide HC wr hml.bel
    by_cases hlt : i < n
    · have hiN : i < R.length := by rw [← unhide HN]; exact hlt
      obtain ⟨b, off, e, hbl, r0, r1, r2, _⟩ := Rd.row (unhide HL) hiN
      obtain ⟨x, hx⟩ : ∃ x, x = R[i] := ⟨_, rfl⟩
      have hst := amtS_succ s fr tt hiN
      rw [← hx] at hst r0 r1 r2
      obtain ⟨xs, hxs⟩ : ∃ y, y = x.acc := ⟨_, rfl⟩
      obtain ⟨xd, hxd⟩ : ∃ y, y = x.day := ⟨_, rfl⟩
      obtain ⟨xa, hxa⟩ : ∃ y, y = x.amt := ⟨_, rfl⟩
      rw [← hxs] at r0
      rw [← hxd] at r1
      rw [← hxa] at r2 hst
      have k0 : wr.cell? ⟨b, off + i * 4, none⟩ = some (.string xs) := keep1 hml.bel hbl r0
      have k1 : wr.cell? ⟨b, off + i * 4 + 1, none⟩ = some (.int .i64 xd) := keep1 hml.bel hbl r1
      have k2 : wr.cell? ⟨b, off + i * 4 + 2, none⟩ = some (.int .i64 xa) := keep1 hml.bel hbl r2
      subst e
      have hI : (i : Int) < (n : Int) := by omega
      have hI0 : (0 : Int) ≤ (i : Int) := by omega
      have hlm := amtS_len (R.take i) s fr tt
      rw [List.length_take, hm] at hlm
      have hin : inS s fr tt x = (decide (xs = s) && (decide (fr ≤ xd) && decide (xd ≤ tt))) := by unfold inS; rw [hxs, hxd]
      rw [hin] at hst
      have stay : (decide (xs = s) && (decide (fr ≤ xd) && decide (xd ≤ tt))) = false → Hid ((amtS (R.take (i + 1)) s fr tt).length = m ∧ Ml kI W wr (.slice p6 m c6) (amtS (R.take (i + 1)) s fr tt)) := fun h => by
        rw [hst, h]
        simp only [Bool.false_eq_true, if_false, List.append_nil]
        exact ⟨hm, hml⟩
      by_cases hss : xs = s
      · by_cases ha : fr ≤ xd
        · by_cases hb : xd ≤ tt
          · rw [decide_eq_true hss, decide_eq_true ha, decide_eq_true hb] at hst
            simp only [Bool.and_self, if_true] at hst
            have hbt : (xs.toList == s.toList) = true := by rw [hss]; simp
            obtain ⟨p', c', w8, hr8, hm8⟩ := hml.more kI_ok (by omega) xa #[.int .i64 xa] rfl 129 2
            have HN8 : Hid ((amtS (R.take (i + 1)) s fr tt).length = m + 1 ∧ Ml kI W w8 (.slice p' (m + 1) c') (amtS (R.take (i + 1)) s fr tt)) := by
              rw [hst]
              exact ⟨by rw [List.length_append, hm]; rfl, by rw [← hm]; exact hm8⟩
            rw [hm] at hr8
            have HR8 := hide hr8
            clear hbl hiN hx hst hrel hm hml hlm hr8 hm8 r0 r1 r2 stay hin hxs hxd hxa hss
            go_wp2_with (first | (at_builtin; refine wpList_append_run rfl _ _ 129 rfl _ _ _ _ rfl rfl (unhide HR8) ?_))
            go_round
            case rel => exact ⟨i + 1, m + 1, p', c', by push_cast; rfl, rfl, by omega, unhide HN8⟩
            case measure => simp only [intOf]; omega
          · have hbt : (xs.toList == s.toList) = true := by rw [hss]; simp
            have HN8 := stay (by simp [hb])
            clear hbl hiN hx hst hrel hm hml hlm r0 r1 r2 stay hin hxs hxd hxa hss
            go_wp2_with fail
            go_round
            case rel => exact ⟨i + 1, m, p6, c6, by push_cast; rfl, rfl, by omega, unhide HN8⟩
            case measure => simp only [intOf]; omega
        · have hbt : (xs.toList == s.toList) = true := by rw [hss]; simp
          have HN8 := stay (by simp [ha])
          clear hbl hiN hx hst hrel hm hml hlm r0 r1 r2 stay hin hxs hxd hxa hss
          go_wp2_with fail
          go_round
          case rel => exact ⟨i + 1, m, p6, c6, by push_cast; rfl, rfl, by omega, unhide HN8⟩
          case measure => simp only [intOf]; omega
      · have hne := str_ne hss
        have HN8 := stay (by simp [hss])
        clear hbl hiN hx hst hrel hm hml hlm r0 r1 r2 stay hin hxs hxd hxa hss
        go_wp2_with fail
        go_round
        case rel => exact ⟨i + 1, m, p6, c6, by push_cast; rfl, rfl, by omega, unhide HN8⟩
        case measure => simp only [intOf]; omega
    · have hin : i = n := by omega
      have hI : ¬ (i : Int) < (n : Int) := by omega
      have e1 : R.take i = R := by rw [hin, unhide HN, List.take_length]
      rw [e1] at hm hml
      have hlm := amtS_len R s fr tt
      have hd := hide (rsum_L (W := wr) (p := p6) (c := c6) (n := m) hm (by rw [← hm]; have := unhide HN; omega) (own_lies kI_ok hm (by have h := hml.row; rw [hm] at h; exact h)) (fun a ha => by obtain ⟨r, hr, rfl⟩ := amtS_mem ha; exact unhide HAM r hr))
      obtain ⟨r1, hr1⟩ : ∃ r1, r1 = (sumL (amtS R s fr tt)).1 := ⟨_, rfl⟩
      obtain ⟨r2, hr2⟩ : ∃ r2, r2 = (sumL (amtS R s fr tt)).2 := ⟨_, rfl⟩
      rw [← hr1, ← hr2] at hd
      have HE : Hid ((sumL (amtS R s fr tt)).1 = r1 ∧ (sumL (amtS R s fr tt)).2 = r2) := ⟨hr1.symm, hr2.symm⟩
      have HML := hide hml
      clear hrel hm hml hlm e1 hr1 hr2
      go_wp2_with fail
      refine (unhide hd).mono ?_
      rintro e w2 ⟨rfl, hb2⟩
      have HB := hide ((unhide HML).bel.trans (hb2.mono (unhide HML).bel.size))
      clear hb2
      go_wp2_with fail
      go_ret2
      exact ⟨by rw [(unhide HE).1, (unhide HE).2]; simp, unhide HB⟩
end Go.Proofs.YtmgnlgobkkfjhaaGreatDoor.Kg
