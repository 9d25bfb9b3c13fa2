/- typing: the law's roomy 21. -/
import Derived.Test.YtfpbljfebjochaaGreatDoorRmA
namespace Go.Proofs.YtfpbljfebjochaaGreatDoor
open Go Go.Shelf Go.ChangeShapes Go.WideShapes Go.ChangeAt Go.RowKit Go.Maps
set_option linter.unusedVariables false
set_option linter.unusedSimpArgs false
set_option maxRecDepth 100000
set_option maxHeartbeats 8000000
def mkG (k : Nat) : Int × Int := (-7, (k : Int))
def mkO (k : Nat) : Int × Bool := (-7 - (k : Int), false)
section
variable {α : Type} {K : Kd α}
theorem Rw.cap {W wr : World} {p : Option Addr} {c n : Nat} {L : List α} (h : Rw K W wr (.slice p n c) n L) : n ≤ c := by
  obtain ⟨q, cc, e1, e2, e3⟩ := row_slice h.row
  cases e1
  cases p with
  | none => have := e2 rfl; omega
  | some a => exact (e3 a rfl).2.2.2
/-- one element more; blocks of other types are left alone -/
theorem Rw.putG (hK : KdOK K) {W wr : World} {v : Value} {n : Nat} {L : List α} (h : Rw K W wr v n L) (x : α) (vs : Array Value) (hv : vs.toList = K.enc x) (ty : TypeId) (hl : n + 1 ≤ 70000000000000) (hb : (n + 1 + (n + 1) / 4 + 192) * K.by' ≤ 281474976710656) :
    ∃ p' c' w', (Builtin.append_ #[K.t, K.t] ty #[v, .slice (some ⟨wr.heap.size, 0, none⟩) 1 1]).run Tryz.prog (wr.alloc (.cells vs K.e)) = .ok (.slice p' (n + 1) c') w' ∧ Rw K W w' (.slice p' (n + 1) c') (n + 1) (L ++ [x]) ∧ wr.heap.size ≤ w'.heap.size ∧ (∀ (q : Nat) (cs : Array Value) (t : TypeId), wr.heap[q]? = some (.cells cs t (0, 0)) → t ≠ K.e → w'.heap[q]? = some (.cells cs t (0, 0))) := by
  obtain ⟨i, z, hi, hz, hsize, hby, hzs⟩ := hK.info
  have hu : Lies K (wr.alloc (.cells vs K.e)) (some ⟨wr.heap.size, 0, none⟩) [x] := one_lies wr x K.e vs hv
  have h' : (wr.alloc (.cells vs K.e)).ownsRow W.heap.size K.e K.s v n (K.flat L) := h.row.alloc _
  have hB : W.heap.size ≤ (wr.alloc (.cells vs K.e)).heap.size := Nat.le_trans h.bel.size (by simp)
  obtain ⟨v', w', hr, ho, hg, hnil⟩ := run_append_own_wide (P := Tryz.prog) (wr.alloc (.cells vs K.e)) W.heap.size K.t ty K.e i z K.s K.by' hK.und hi hz hsize hby hzs hK.pos v n (K.flat L) h' ⟨wr.heap.size, 0, none⟩ [x].length 1 (K.flat [x]) (flat_len hK [x]) (news_of hK hu) (flat_one hK [x]) (by unfold maxLen; simp; omega) hb hB
  have ho2 : w'.ownsRow W.heap.size K.e K.s v' (n + 1) (K.flat (L ++ [x])) := by rw [flat_append]; exact ho
  obtain ⟨p, c, e, _⟩ := row_slice ho2
  subst e
  have hbel : Below W.heap.size (wr.alloc (.cells vs K.e)) w' := ⟨hg.os, hg.tape, hg.output, hg.size, fun q hq => hg.block q (Nat.lt_of_lt_of_le hq hB) (fun e => by have := (row_block h' e.symm).1; omega)⟩
  refine ⟨p, c, w', hr, ⟨ho2, (h.bel.alloc h.bel.size _).trans hbel, by rw [List.length_append, h.len]; rfl⟩, Nat.le_trans (by simp) hg.size, fun q cs t hq ht => ?_⟩
  have hlt : q < wr.heap.size := (Array.getElem?_eq_some_iff.1 hq).1
  refine (hg.block q (by simp; omega) (fun e => ?_)).trans ((Below.heap_alloc _ _ _ hlt).trans hq)
  obtain ⟨cur, hc⟩ := row_type h e.symm
  rw [hq] at hc
  injection hc with hc
  injection hc with _ h2
  exact ht h2
theorem Rw.far {β : Type} {J : Kd β} {W wr w' : World} {v : Value} {n : Nat} {L : List β} {T : TypeId} (h : Rw J W wr v n L) (hb : Below W.heap.size W w') (hk : ∀ (q : Nat) (cs : Array Value) (t : TypeId), wr.heap[q]? = some (.cells cs t (0, 0)) → t ≠ T → w'.heap[q]? = some (.cells cs t (0, 0))) (hT : J.e ≠ T) : Rw J W w' v n L :=
  ⟨row_keep h.row (fun g hg => by obtain ⟨cur, hc⟩ := row_type h hg; rw [hk g _ _ hc hT, hc]), hb, h.len⟩
end
/-- the query's copy while marks are put behind its lists -/
structure Ri (W wr : World) (q : Qy) (src : Array Value) (b7 j : Nat) (c : Qa) : Prop where
  b0 : wr.heap[W.heap.size]? = some (.cells src 27 (0, 0))
  b1 : wr.heap[W.heap.size + 1]? = some (.cells #[.slice none 0 0, .int .i64 0, .slice none 0 0, .slice none 0 0, .slice none 0 0, .int .i64 0] 27 (0, 0))
  bk : wr.heap[b7]? = some (.cells #[.slice c.pN q.nodes.length c.cN, .int .i64 q.wh, .slice c.pB q.by'.length c.cB, .slice c.pS (q.sh.length + j) c.cS, .slice c.pO (q.ords.length + j) c.cO, .int .i64 q.lim] 27 (0, 0))
  n : Rw kN W wr (.slice c.pN (q.nodes.length + 64) c.cN) (q.nodes.length + 64) (q.nodes ++ mks mkN 64)
  b : Rw kI W wr (.slice c.pB (q.by'.length + 64) c.cB) (q.by'.length + 64) (q.by' ++ mks mkI 64)
  s : Rw kG W wr (.slice c.pS (q.sh.length + j) c.cS) (q.sh.length + j) (q.sh ++ mks mkG j)
  o : Rw kO W wr (.slice c.pO (q.ords.length + j) c.cO) (q.ords.length + j) (q.ords ++ mks mkO j)
  lo : W.heap.size + 1 < b7
  ns : q.sh.length ≤ 8800000000000
  no : q.ords.length ≤ 8800000000000
/-- between the two appends: Show has come further -/
structure Rj (W wr : World) (q : Qy) (src : Array Value) (b7 j : Nat) (c : Qa) : Prop where
  b0 : wr.heap[W.heap.size]? = some (.cells src 27 (0, 0))
  b1 : wr.heap[W.heap.size + 1]? = some (.cells #[.slice none 0 0, .int .i64 0, .slice none 0 0, .slice none 0 0, .slice none 0 0, .int .i64 0] 27 (0, 0))
  bk : wr.heap[b7]? = some (.cells #[.slice c.pN q.nodes.length c.cN, .int .i64 q.wh, .slice c.pB q.by'.length c.cB, .slice c.pS (q.sh.length + (j + 1)) c.cS, .slice c.pO (q.ords.length + j) c.cO, .int .i64 q.lim] 27 (0, 0))
  n : Rw kN W wr (.slice c.pN (q.nodes.length + 64) c.cN) (q.nodes.length + 64) (q.nodes ++ mks mkN 64)
  b : Rw kI W wr (.slice c.pB (q.by'.length + 64) c.cB) (q.by'.length + 64) (q.by' ++ mks mkI 64)
  s : Rw kG W wr (.slice c.pS (q.sh.length + (j + 1)) c.cS) (q.sh.length + (j + 1)) (q.sh ++ mks mkG (j + 1))
  o : Rw kO W wr (.slice c.pO (q.ords.length + j) c.cO) (q.ords.length + j) (q.ords ++ mks mkO j)
  lo : W.heap.size + 1 < b7
  ns : q.sh.length ≤ 8800000000000
  no : q.ords.length ≤ 8800000000000
theorem Ri.stepS {W wr : World} {q : Qy} {src : Array Value} {b7 j : Nat} {c : Qa} (h : Ri W wr q src b7 j c) (hj : j < 64) : ∃ p' c' w', (Builtin.append_ #[24, 24] 24 #[.slice c.pS (q.sh.length + j) c.cS, .slice (some ⟨wr.heap.size, 0, none⟩) 1 1]).run Tryz.prog (wr.alloc (.cells #[.int .i64 (-7), .int .i64 (j : Int)] 75)) = .ok (.slice p' (q.sh.length + (j + 1)) c') w' ∧ w'.cell? ⟨b7, 3, none⟩ = some (.slice c.pS (q.sh.length + j) c.cS) ∧ w'.frozen? ⟨b7, 3, none⟩ = false ∧ Rj W (w'.setCell ⟨b7, 3, none⟩ (.slice p' (q.sh.length + (j + 1)) c')) q src b7 j ⟨c.pN, c.cN, c.pB, c.cB, p', c', c.pO, c.cO⟩ := by
  have hns := h.ns
  obtain ⟨p8, c8, w8, r8, o8, z8, k8⟩ := h.s.putG kG_ok (mkG j) #[.int .i64 (-7), .int .i64 (j : Int)] rfl 24 (by omega) (nat_bound (c := 8800000000064) (by omega) (by decide))
  rw [List.append_assoc, ← mks_succ] at o8
  have e7 := k8 _ _ _ h.bk (by decide)
  refine ⟨p8, c8, w8, r8, by rw [cell_at e7]; rfl, froz_at e7, ?_⟩
  have lo := h.lo
  refine ⟨?_, ?_, by rw [heap_set e7]; rfl, ?_, ?_, ?_, ?_, h.lo, h.ns, h.no⟩
  · exact (Below.heap_setCell _ _ _ _ (by show W.heap.size ≠ b7; omega)).trans (k8 _ _ _ h.b0 (by decide))
  · exact (Below.heap_setCell _ _ _ _ (by show W.heap.size + 1 ≠ b7; omega)).trans (k8 _ _ _ h.b1 (by decide))
  · exact (h.n.far o8.bel k8 (by decide)).set e7 (by decide) (by omega) 3 _
  · exact (h.b.far o8.bel k8 (by decide)).set e7 (by decide) (by omega) 3 _
  · exact o8.set e7 (by decide) (by omega) 3 _
  · exact (h.o.far o8.bel k8 (by decide)).set e7 (by decide) (by omega) 3 _
theorem Rj.stepO {W wr : World} {q : Qy} {src : Array Value} {b7 j : Nat} {c : Qa} (h : Rj W wr q src b7 j c) (hj : j < 64) : ∃ p' c' w', (Builtin.append_ #[25, 25] 25 #[.slice c.pO (q.ords.length + j) c.cO, .slice (some ⟨wr.heap.size, 0, none⟩) 1 1]).run Tryz.prog (wr.alloc (.cells #[.int .i64 (-7 - (j : Int)), .bool false] 77)) = .ok (.slice p' (q.ords.length + (j + 1)) c') w' ∧ w'.cell? ⟨b7, 4, none⟩ = some (.slice c.pO (q.ords.length + j) c.cO) ∧ w'.frozen? ⟨b7, 4, none⟩ = false ∧ Ri W (w'.setCell ⟨b7, 4, none⟩ (.slice p' (q.ords.length + (j + 1)) c')) q src b7 (j + 1) ⟨c.pN, c.cN, c.pB, c.cB, c.pS, c.cS, p', c'⟩ := by
  have hns := h.no
  obtain ⟨p8, c8, w8, r8, o8, z8, k8⟩ := h.o.putG kO_ok (mkO j) #[.int .i64 (-7 - (j : Int)), .bool false] rfl 25 (by omega) (nat_bound (c := 8800000000064) (by omega) (by decide))
  rw [List.append_assoc, ← mks_succ] at o8
  have e7 := k8 _ _ _ h.bk (by decide)
  refine ⟨p8, c8, w8, r8, by rw [cell_at e7]; rfl, froz_at e7, ?_⟩
  have lo := h.lo
  refine ⟨?_, ?_, by rw [heap_set e7]; rfl, ?_, ?_, ?_, ?_, h.lo, h.ns, h.no⟩
  · exact (Below.heap_setCell _ _ _ _ (by show W.heap.size ≠ b7; omega)).trans (k8 _ _ _ h.b0 (by decide))
  · exact (Below.heap_setCell _ _ _ _ (by show W.heap.size + 1 ≠ b7; omega)).trans (k8 _ _ _ h.b1 (by decide))
  · exact (h.n.far o8.bel k8 (by decide)).set e7 (by decide) (by omega) 4 _
  · exact (h.b.far o8.bel k8 (by decide)).set e7 (by decide) (by omega) 4 _
  · exact (h.s.far o8.bel k8 (by decide)).set e7 (by decide) (by omega) 4 _
  · exact o8.set e7 (by decide) (by omega) 4 _
/-- a query with marked room behind its lists -/
structure Rmy (W w' : World) (q : Qy) (c : Qa) : Prop where
  n : Rw kN W w' (.slice c.pN (q.nodes.length + 64) c.cN) (q.nodes.length + 64) (q.nodes ++ mks mkN 64)
  b : Rw kI W w' (.slice c.pB (q.by'.length + 64) c.cB) (q.by'.length + 64) (q.by' ++ mks mkI 64)
  s : Rw kG W w' (.slice c.pS (q.sh.length + 64) c.cS) (q.sh.length + 64) (q.sh ++ mks mkG 64)
  o : Rw kO W w' (.slice c.pO (q.ords.length + 64) c.cO) (q.ords.length + 64) (q.ords ++ mks mkO 64)
theorem Rmy.bel {W w' : World} {q : Qy} {c : Qa} (h : Rmy W w' q c) : Below W.heap.size W w' := h.n.bel
theorem Lies.pre {α : Type} {K : Kd α} {W : World} {p : Option Addr} {L M : List α} (h : Lies K W p (L ++ M)) : Lies K W p L := ⟨fun hp => (List.append_eq_nil_iff.1 (h.1 hp)).1, fun k hk => by
  obtain ⟨b, off, e, hl, hr⟩ := h.2 k (by rw [List.length_append]; omega)
  rw [List.getElem_append_left hk] at hr
  exact ⟨b, off, e, hl, hr⟩⟩
theorem Rmy.q {W w' : World} {q : Qy} {a c : Qa} (h : Rmy W w' q c) (hq : QIn W q a) : QIn w' q c := ⟨(h.n.lies kN_ok).pre, (h.b.lies kI_ok).pre, (h.s.lies kG_ok).pre, (h.o.lies kO_ok).pre, hq.nn, hq.nb, hq.ns, hq.no⟩
attribute [local go_sem ↓] ld32_is st32_is
theorem roomy_any {W : World} {q : Qy} {a : Qa} (hq : QIn W q a) (hc : QCp a) : Calls Tryz.prog 12 #[qV q a] W fun e w' => ∃ c, e = .returned (.tuple #[qV q c, .slice c.pN (q.nodes.length + 64) c.cN, .slice c.pB (q.by'.length + 64) c.cB]) ∧ Rmy W w' q c := by
  obtain ⟨nN, hnN⟩ : ∃ n, n = q.nodes.length := ⟨_, rfl⟩
  obtain ⟨nB, hnB⟩ : ∃ n, n = q.by'.length := ⟨_, rfl⟩
  obtain ⟨nS, hnS⟩ : ∃ n, n = q.sh.length := ⟨_, rfl⟩
  obtain ⟨nO, hnO⟩ : ∃ n, n = q.ords.length := ⟨_, rfl⟩
  have hnn := hq.nn; have hnb := hq.nb; have hns := hq.ns; have hno := hq.no
  rw [← hnN] at hnn
  rw [← hnB] at hnb
  rw [← hnS] at hns
  rw [← hnO] at hno
  obtain ⟨W2, hW2⟩ : ∃ X, X = (W.alloc (.cells #[.slice a.pN nN a.cN, .int .i64 q.wh, .slice a.pB nB a.cB, .slice a.pS nS a.cS, .slice a.pO nO a.cO, .int .i64 q.lim] 27)).alloc (.cells #[.slice none 0 0, .int .i64 0, .slice none 0 0, .slice none 0 0, .slice none 0 0, .int .i64 0] 27) := ⟨_, rfl⟩
  have hB2 : Below W.heap.size W W2 := by rw [hW2]; exact Below.a2 W _ _
  have hs2 : W2.heap.size = W.heap.size + 2 := by rw [hW2]; simp
  have b0 : W2.heap[W.heap.size]? = some (.cells #[.slice a.pN nN a.cN, .int .i64 q.wh, .slice a.pB nB a.cB, .slice a.pS nS a.cS, .slice a.pO nO a.cO, .int .i64 q.lim] 27 (0, 0)) := by rw [hW2, Below.heap_alloc _ _ _ (by simp)]; exact heap_new _ _
  have b1 : W2.heap[W.heap.size + 1]? = some (.cells #[.slice none 0 0, .int .i64 0, .slice none 0 0, .slice none 0 0, .slice none 0 0, .int .i64 0] 27 (0, 0)) := by
    rw [hW2]
    have := heap_new (W.alloc (.cells #[.slice a.pN nN a.cN, .int .i64 q.wh, .slice a.pB nB a.cB, .slice a.pS nS a.cS, .slice a.pO nO a.cO, .int .i64 q.lim] 27)) (.cells #[.slice none 0 0, .int .i64 0, .slice none 0 0, .slice none 0 0, .slice none 0 0, .int .i64 0] 27)
    rw [World.size_alloc] at this
    exact this
  have HF0 : Hid (∀ X, Below W2.heap.size W2 X → X.heap[W.heap.size]? = some (.cells #[.slice a.pN nN a.cN, .int .i64 q.wh, .slice a.pB nB a.cB, .slice a.pS nS a.cS, .slice a.pO nO a.cO, .int .i64 q.lim] 27 (0, 0))) := fun X h => (h.block _ (by omega)).trans b0
  have HF1 : Hid (∀ X, Below W2.heap.size W2 X → X.heap[W.heap.size + 1]? = some (.cells #[.slice none 0 0, .int .i64 0, .slice none 0 0, .slice none 0 0, .slice none 0 0, .int .i64 0] 27 (0, 0))) := fun X h => (h.block _ (by omega)).trans b1
  have d1 := room34 (W := W2) hc.n (hq.n.below hB2) hq.nn
  rw [← hnN] at d1
  have D1 := hide d1
  have D2 : Hid (∀ X, Below W2.heap.size W2 X → Calls Tryz.prog 66 #[.slice a.pB nB a.cB] X fun e w' => ∃ p' c', e = .returned (.slice p' (nB + 64) c') ∧ Rw kI X w' (.slice p' (nB + 64) c') (nB + 64) (q.by' ++ mks mkI 64)) := fun X h => by
    have := room35 (W := X) hc.b ((hq.b.below hB2).below h) hq.nb
    rw [← hnB] at this
    exact this
  have D3 : Hid (∀ X, Below W2.heap.size W2 X → Calls Tryz.prog 10 #[qV q a] X fun e w' => ∃ a', e = .returned (qV q a') ∧ Twn X w' q a') := fun X h => twin_any ((hq.below hB2).below h) hc
  have HL32 : Hid (∀ X, Below W2.heap.size W2 X → (ld32 (.pointer (some ⟨W.heap.size, 0, none⟩))).run Tryz.prog X = .ok (qV q a) X) := fun X h => run_ld32 (fun u v hv => by
    rw [Nat.zero_add, cell_at (unhide HF0 X h), hnN, hnB, hnS, hnO]
    simpa [qC] using hv)
  have hgo : qV q a = .agg #[.slice a.pN nN a.cN, .int .i64 q.wh, .slice a.pB nB a.cB, .slice a.pS nS a.cS, .slice a.pO nO a.cO, .int .i64 q.lim] := by rw [hnN, hnB, hnS, hnO]; rfl
  rw [hgo]
  obtain ⟨qq, hqq⟩ : ∃ v, v = qV q a := ⟨_, rfl⟩
  rw [← hqq] at D3 HL32
  have HN := hide hnN; have HB := hide hnB; have HS := hide hnS; have HO := hide hnO; have HB2 := hide hB2; have HS2 := hide hs2; have HQ := hide hq
  have c20 : W2.cell? ⟨W.heap.size, 0, none⟩ = some (.slice a.pN nN a.cN) := by rw [cell_at b0]; rfl
  clear hq hc hnN hnB hnS hnO hB2 hs2 b0 b1 d1 hgo hqq
  go_enter Tryz.func12, Tryz.ntmps12
  go_upto_region 1 with fail
  rw [← hW2]
  clear hW2
  go_wp2_with fail
  refine (unhide D1).mono ?_
  rintro e w3 ⟨p1, c1, rfl, R1⟩
  have HR1 := hide R1
  have c32 : w3.cell? ⟨W.heap.size, 2, none⟩ = some (.slice a.pB nB a.cB) := by rw [cell_at (unhide HF0 _ R1.bel)]; rfl
  have d2 := hide (unhide D2 _ R1.bel)
  clear c20 D1 D2 R1
  go_wp2_with fail
  refine (unhide d2).mono ?_
  rintro e w4 ⟨p2, c2, rfl, R2⟩
  have HR2 := hide R2
  have HB4 : Hid (Below W2.heap.size W2 w4) := (unhide HR1).bel.trans (R2.bel.mono (unhide HR1).bel.size)
  have l4 := unhide HL32 _ (unhide HB4)
  have d3 := hide (unhide D3 _ (unhide HB4))
  clear c32 d2 D3 HL32 R2
  go_wp2_with fail
  refine (unhide d3).mono ?_
  rintro e w5 ⟨t, rfl, T5⟩
  have HT5 := hide T5
  obtain ⟨b7, hb7⟩ : ∃ n, n = w5.heap.size := ⟨_, rfl⟩
  have hqv2 : qV q t = .agg #[.slice t.pN nN t.cN, .int .i64 q.wh, .slice t.pB nB t.cB, .slice t.pS nS t.cS, .slice t.pO nO t.cO, .int .i64 q.lim] := by rw [unhide HN, unhide HB, unhide HS, unhide HO]; rfl
  obtain ⟨X1, hX1⟩ : ∃ X, X = w5.alloc (.cells #[.slice t.pN nN t.cN, .int .i64 q.wh, .slice t.pB nB t.cB, .slice t.pS nS t.cS, .slice t.pO nO t.cO, .int .i64 q.lim] 27) := ⟨_, rfl⟩
  have s3 := run_st32_new (w := w5) (v0 := .slice t.pN nN t.cN) (v1 := .int .i64 q.wh) (v2 := .slice t.pB nB t.cB) (v3 := .slice t.pS nS t.cS) (v4 := .slice t.pO nO t.cO) (v5 := .int .i64 q.lim) (fun u hu => by simp at hu; rcases hu with rfl | rfl | rfl | rfl | rfl | rfl <;> rfl)
  rw [← hX1, ← hb7] at s3
  have HB5 : Hid (Below W2.heap.size W2 w5) := (unhide HB4).trans (T5.bel.mono (unhide HB4).size)
  have hBX : Below w5.heap.size w5 X1 := by rw [hX1]; exact Below.a1 w5 _
  have HX7 : Hid (X1.heap[b7]? = some (.cells #[.slice t.pN nN t.cN, .int .i64 q.wh, .slice t.pB nB t.cB, .slice t.pS nS t.cS, .slice t.pO nO t.cO, .int .i64 q.lim] 27 (0, 0))) := by rw [hX1, hb7]; exact heap_new _ _
  have HBX1 : Hid (Below W2.heap.size W2 X1) := (unhide HB5).trans (hBX.mono (unhide HB5).size)
  have HBX := hide hBX
  have HL7 : Hid (W.heap.size + 1 < b7) := by show _ < _; rw [hb7]; have := (unhide HB5).size; have := unhide HS2; omega
  have Q1 : Hid (Rw kN W X1 (.slice p1 (nN + 64) c1) (nN + 64) (q.nodes ++ mks mkN 64)) := ((((unhide HR1).below (unhide HR2).bel).below T5.bel).below hBX).up (unhide HB2)
  have Q2 : Hid (Rw kI W X1 (.slice p2 (nB + 64) c2) (nB + 64) (q.by' ++ mks mkI 64)) := (((unhide HR2).below T5.bel).below hBX).up ((unhide HB2).trans ((unhide HR1).bel.mono (unhide HB2).size))
  have Q3 : Hid (Rw kG W X1 (.slice t.pS nS t.cS) nS q.sh) := by rw [unhide HS]; exact (T5.s.below hBX).up ((unhide HB2).trans ((unhide HB4).mono (unhide HB2).size))
  have Q4 : Hid (Rw kO W X1 (.slice t.pO nO t.cO) nO q.ords) := by rw [unhide HO]; exact (T5.o.below hBX).up ((unhide HB2).trans ((unhide HB4).mono (unhide HB2).size))
  rw [hqv2]
  clear T5 hqv2 d3 l4 hBX
  go_upto_region 4 with fail
  rw [← hb7, s3]
  clear hX1 s3 hb7
  have c70 : X1.cell? ⟨b7, 0, none⟩ = some (.slice t.pN nN t.cN) := by rw [cell_at (unhide HX7)]; rfl
  have f70 : X1.frozen? ⟨b7, 0, none⟩ = false := froz_at (unhide HX7)
  have c00 : X1.cell? ⟨W.heap.size, 0, none⟩ = some (.slice a.pN nN a.cN) := by rw [cell_at (unhide HF0 _ (unhide HBX1))]; rfl
  obtain ⟨g1, hg1, _, _, _⟩ := (unhide Q1).start (by omega)
  obtain ⟨g2, hg2, _, _, _⟩ := (unhide Q2).start (by omega)
  have HC1 := hide (unhide Q1).cap; have HC2 := hide (unhide Q2).cap
  subst hg1 hg2
  have k1 : (nN : Int) ≤ (c1 : Int) := by have := unhide HC1; omega
  have k2 : (nB : Int) ≤ (c2 : Int) := by have := unhide HC2; omega
  have k3 : ¬ (c1 : Int) < (nN : Int) := by omega
  have k4 : ¬ (c2 : Int) < (nB : Int) := by omega
  obtain ⟨X2, hX2⟩ : ∃ X, X = X1.setCell ⟨b7, 0, none⟩ (.slice (some ⟨g1, 0, none⟩) nN c1) := ⟨_, rfl⟩
  have hx2 : X2.heap[b7]? = some (.cells #[.slice (some ⟨g1, 0, none⟩) nN c1, .int .i64 q.wh, .slice t.pB nB t.cB, .slice t.pS nS t.cS, .slice t.pO nO t.cO, .int .i64 q.lim] 27 (0, 0)) := by rw [hX2, heap_set (unhide HX7)]; rfl
  have HX2 := hide hx2
  have h20 : X2.heap[W.heap.size]? = some (.cells #[.slice a.pN nN a.cN, .int .i64 q.wh, .slice a.pB nB a.cB, .slice a.pS nS a.cS, .slice a.pO nO a.cO, .int .i64 q.lim] 27 (0, 0)) := by rw [hX2]; exact (Below.heap_setCell _ _ _ _ (by show W.heap.size ≠ b7; have := unhide HL7; omega)).trans (unhide HF0 _ (unhide HBX1))
  have H20 := hide h20
  have c02 : X2.cell? ⟨W.heap.size, 2, none⟩ = some (.slice a.pB nB a.cB) := by rw [cell_at h20]; rfl
  have c72 : X2.cell? ⟨b7, 2, none⟩ = some (.slice t.pB nB t.cB) := by rw [cell_at hx2]; rfl
  have f72 : X2.frozen? ⟨b7, 2, none⟩ = false := froz_at hx2
  obtain ⟨X3, hX3⟩ : ∃ X, X = X2.setCell ⟨b7, 2, none⟩ (.slice (some ⟨g2, 0, none⟩) nB c2) := ⟨_, rfl⟩
  have hx3 : X3.heap[b7]? = some (.cells #[.slice (some ⟨g1, 0, none⟩) nN c1, .int .i64 q.wh, .slice (some ⟨g2, 0, none⟩) nB c2, .slice t.pS nS t.cS, .slice t.pO nO t.cO, .int .i64 q.lim] 27 (0, 0)) := by rw [hX3, heap_set hx2]; rfl
  have HRI : Hid (Ri W X3 q #[.slice a.pN nN a.cN, .int .i64 q.wh, .slice a.pB nB a.cB, .slice a.pS nS a.cS, .slice a.pO nO a.cO, .int .i64 q.lim] b7 0 ⟨some ⟨g1, 0, none⟩, c1, some ⟨g2, 0, none⟩, c2, t.pS, t.cS, t.pO, t.cO⟩) := by
    have lo := unhide HL7
    refine ⟨?_, ?_, ?_, ?_, ?_, ?_, ?_, lo, (unhide HQ).ns, (unhide HQ).no⟩
    · rw [hX3]; exact (Below.heap_setCell _ _ _ _ (by show W.heap.size ≠ b7; omega)).trans h20
    · rw [hX3]
      refine (Below.heap_setCell _ _ _ _ (by show W.heap.size + 1 ≠ b7; omega)).trans ?_
      rw [hX2]
      exact (Below.heap_setCell _ _ _ _ (by show W.heap.size + 1 ≠ b7; omega)).trans (unhide HF1 _ (unhide HBX1))
    · rw [hx3, unhide HN, unhide HB, unhide HS, unhide HO]; rfl
    · rw [← unhide HN, hX3, hX2]
      exact ((unhide Q1).set (unhide HX7) (by decide) (by omega) 0 _).set (by rw [← hX2]; exact hx2) (by decide) (by omega) 2 _
    · rw [← unhide HB, hX3, hX2]
      exact ((unhide Q2).set (unhide HX7) (by decide) (by omega) 0 _).set (by rw [← hX2]; exact hx2) (by decide) (by omega) 2 _
    · rw [← unhide HS, hX3, hX2]
      show Rw kG W _ _ _ (q.sh ++ [])
      rw [List.append_nil]
      exact ((unhide Q3).set (unhide HX7) (by decide) (by omega) 0 _).set (by rw [← hX2]; exact hx2) (by decide) (by omega) 2 _
    · rw [← unhide HO, hX3, hX2]
      show Rw kO W _ _ _ (q.ords ++ [])
      rw [List.append_nil]
      exact ((unhide Q4).set (unhide HX7) (by decide) (by omega) 0 _).set (by rw [← hX2]; exact hx2) (by decide) (by omega) 2 _
  clear hx2 hx3 h20
  go_upto_region 5 with fail
  rw [← hX2]
  clear hX2 c70 f70 c00
  go_upto_region 6 with fail
  rw [← hX3]
  clear hX3 c72 f72 c02 HX2 H20 HX7 HF0 HF1 Q1 Q2 Q3 Q4 HR1 HR2 HT5 HB4 HB5 HBX HBX1 HB2 HS2
  go_upto_region 7 with fail
  go_loopw [8] (fun v8 wr => ∃ (j : Nat) (pS : Option Addr) (cS : Nat) (pO : Option Addr) (cO : Nat), j ≤ 64 ∧ v8 = .int .i64 (j : Int) ∧ Hid (Ri W wr q #[.slice a.pN nN a.cN, .int .i64 q.wh, .slice a.pB nB a.cB, .slice a.pS nS a.cS, .slice a.pO nO a.cO, .int .i64 q.lim] b7 j ⟨some ⟨g1, 0, none⟩, c1, some ⟨g2, 0, none⟩, c2, pS, cS, pO, cO⟩)) (fun v8 _ => 64 - (intOf v8).toNat)
  case atStart => exact ⟨0, _, _, _, _, by omega, rfl, unhide HRI⟩
  case round =>
    clear HRI
    obtain ⟨j, pS, cS, pO, cO, hj, rfl, HR⟩ := hrel
    by_cases hlt : j < 64
    · have hI : (j : Int) < 64 := by omega
      obtain ⟨p8, c8, w8, r8, e8, f8, R8⟩ := (unhide HR).stepS hlt
      obtain ⟨p9, c9, w9, r9, e9, f9, R9⟩ := R8.stepO hlt
      have x3 : wr.cell? ⟨b7, 3, none⟩ = some (.slice pS (nS + j) cS) := by rw [cell_at (unhide HR).bk, unhide HS]; rfl
      have x4 : (w8.setCell ⟨b7, 3, none⟩ (.slice p8 (nS + (j + 1)) c8)).cell? ⟨b7, 4, none⟩ = some (.slice pO (nO + j) cO) := by
        have := cell_at (i := 4) R8.bk
        rw [← unhide HS] at this
        rw [this, unhide HO]; rfl
      have r8 : (Builtin.append_ #[24, 24] 24 #[.slice pS (nS + j) cS, .slice (some ⟨wr.heap.size, 0, none⟩) 1 1]).run Tryz.prog (wr.alloc (.cells #[.int .i64 (-7), .int .i64 (j : Int)] 75)) = .ok (.slice p8 (nS + (j + 1)) c8) w8 := by rw [unhide HS]; exact r8
      have e8 : w8.cell? ⟨b7, 3, none⟩ = some (.slice pS (nS + j) cS) := by rw [unhide HS]; exact e8
      obtain ⟨Y8, hY8⟩ : ∃ Y, Y = w8.setCell ⟨b7, 3, none⟩ (.slice p8 (nS + (j + 1)) c8) := ⟨_, rfl⟩
      have hY8' := hY8
      rw [unhide HS] at hY8'
      rw [← hY8'] at r9
      rw [← hY8] at x4
      have r9 : (Builtin.append_ #[25, 25] 25 #[.slice pO (nO + j) cO, .slice (some ⟨Y8.heap.size, 0, none⟩) 1 1]).run Tryz.prog (Y8.alloc (.cells #[.int .i64 (-7 - (j : Int)), .bool false] 77)) = .ok (.slice p9 (nO + (j + 1)) c9) w9 := by rw [unhide HO]; exact r9
      have e9 : w9.cell? ⟨b7, 4, none⟩ = some (.slice pO (nO + j) cO) := by rw [unhide HO]; exact e9
      rw [← unhide HO] at R9
      have HR8 := hide r8; have HR9 := hide r9; have HRR := hide R9
      have hwj : IntKind.i64.wrap (-7 - (j : Int)) = -7 - (j : Int) := by rw [IntKind.wrap_i64]; omega
      clear r8 r9 R8 R9 hY8'
      go_upto_region 10 with (at_builtin; refine wpList_append_run rfl _ _ 24 rfl _ _ _ _ rfl rfl (unhide HR8) ?_)
      rw [← hY8]
      clear hY8 x3 e8 f8
      go_wp2_with (at_builtin; refine wpList_append_run rfl _ _ 25 rfl _ _ _ _ rfl rfl (unhide HR9) ?_)
      exact ⟨⟨j + 1, _, _, _, _, by omega, by go_num, unhide HRR⟩, by simp [intOf]; omega⟩
    · have hj64 : j = 64 := by omega
      subst hj64
      have hI : ¬ (64 : Int) < 64 := by omega
      obtain ⟨g3, hg3, _, _, _⟩ := (unhide HR).s.start (by omega)
      obtain ⟨g4, hg4, _, _, _⟩ := (unhide HR).o.start (by omega)
      have HC3 := hide (unhide HR).s.cap; have HC4 := hide (unhide HR).o.cap
      have hg3 : pS = some ⟨g3, 0, none⟩ := hg3
      have hg4 : pO = some ⟨g4, 0, none⟩ := hg4
      subst hg3 hg4
      have k5 : (nS : Int) ≤ (cS : Int) := by have : q.sh.length + 64 ≤ cS := unhide HC3; rw [← unhide HS] at this; omega
      have k6 : (nO : Int) ≤ (cO : Int) := by have : q.ords.length + 64 ≤ cO := unhide HC4; rw [← unhide HO] at this; omega
      have k7 : ¬ (cS : Int) < (nS : Int) := by omega
      have k8 : ¬ (cO : Int) < (nO : Int) := by omega
      have hbk := (unhide HR).bk
      rw [← unhide HN, ← unhide HB, ← unhide HS, ← unhide HO] at hbk
      have hb0 := (unhide HR).b0
      have lo := unhide HL7
      have y3 : wr.cell? ⟨b7, 3, none⟩ = some (.slice (some ⟨g3, 0, none⟩) (nS + 64) cS) := by rw [cell_at hbk]; rfl
      have y3f : wr.frozen? ⟨b7, 3, none⟩ = false := froz_at hbk
      have y0 : wr.cell? ⟨W.heap.size, 3, none⟩ = some (.slice a.pS nS a.cS) := by rw [cell_at hb0]; rfl
      obtain ⟨Y1, hY1⟩ : ∃ Y, Y = wr.setCell ⟨b7, 3, none⟩ (.slice (some ⟨g3, 0, none⟩) nS cS) := ⟨_, rfl⟩
      have h1k : Y1.heap[b7]? = some (.cells #[.slice (some ⟨g1, 0, none⟩) nN c1, .int .i64 q.wh, .slice (some ⟨g2, 0, none⟩) nB c2, .slice (some ⟨g3, 0, none⟩) nS cS, .slice (some ⟨g4, 0, none⟩) (nO + 64) cO, .int .i64 q.lim] 27 (0, 0)) := by rw [hY1, heap_set hbk]; rfl
      have h10 : Y1.heap[W.heap.size]? = some (.cells #[.slice a.pN nN a.cN, .int .i64 q.wh, .slice a.pB nB a.cB, .slice a.pS nS a.cS, .slice a.pO nO a.cO, .int .i64 q.lim] 27 (0, 0)) := by rw [hY1]; exact (Below.heap_setCell _ _ _ _ (by show W.heap.size ≠ b7; omega)).trans hb0
      have h11 : Y1.heap[W.heap.size + 1]? = some (.cells #[.slice none 0 0, .int .i64 0, .slice none 0 0, .slice none 0 0, .slice none 0 0, .int .i64 0] 27 (0, 0)) := by rw [hY1]; exact (Below.heap_setCell _ _ _ _ (by show W.heap.size + 1 ≠ b7; omega)).trans (unhide HR).b1
      have y4 : Y1.cell? ⟨b7, 4, none⟩ = some (.slice (some ⟨g4, 0, none⟩) (nO + 64) cO) := by rw [cell_at h1k]; rfl
      have y4f : Y1.frozen? ⟨b7, 4, none⟩ = false := froz_at h1k
      have y40 : Y1.cell? ⟨W.heap.size, 4, none⟩ = some (.slice a.pO nO a.cO) := by rw [cell_at h10]; rfl
      obtain ⟨Y2, hY2⟩ : ∃ Y, Y = Y1.setCell ⟨b7, 4, none⟩ (.slice (some ⟨g4, 0, none⟩) nO cO) := ⟨_, rfl⟩
      have h2k : Y2.heap[b7]? = some (.cells #[.slice (some ⟨g1, 0, none⟩) nN c1, .int .i64 q.wh, .slice (some ⟨g2, 0, none⟩) nB c2, .slice (some ⟨g3, 0, none⟩) nS cS, .slice (some ⟨g4, 0, none⟩) nO cO, .int .i64 q.lim] 27 (0, 0)) := by rw [hY2, heap_set h1k]; rfl
      have h21 : Y2.heap[W.heap.size + 1]? = some (.cells #[.slice none 0 0, .int .i64 0, .slice none 0 0, .slice none 0 0, .slice none 0 0, .int .i64 0] 27 (0, 0)) := by rw [hY2]; exact (Below.heap_setCell _ _ _ _ (by show W.heap.size + 1 ≠ b7; omega)).trans h11
      have l2 : (ld32 (.pointer (some ⟨b7, 0, none⟩))).run Tryz.prog Y2 = .ok (.agg #[.slice (some ⟨g1, 0, none⟩) nN c1, .int .i64 q.wh, .slice (some ⟨g2, 0, none⟩) nB c2, .slice (some ⟨g3, 0, none⟩) nS cS, .slice (some ⟨g4, 0, none⟩) nO cO, .int .i64 q.lim]) Y2 :=
        run_loadAt_mid (P := Tryz.prog) Y2 b7 0 27 [.slice (some ⟨g1, 0, none⟩) nN c1, .int .i64 q.wh, .slice (some ⟨g2, 0, none⟩) nB c2, .slice (some ⟨g3, 0, none⟩) nS cS, .slice (some ⟨g4, 0, none⟩) nO cO, .int .i64 q.lim] _ (fun j u hu => by rw [Nat.zero_add, cell_at h2k]; simpa using hu) Tryz.underlying27 rfl size32
      have s2 := run_st32 h21 rfl (v0 := .slice (some ⟨g1, 0, none⟩) nN c1) (v1 := .int .i64 q.wh) (v2 := .slice (some ⟨g2, 0, none⟩) nB c2) (v3 := .slice (some ⟨g3, 0, none⟩) nS cS) (v4 := .slice (some ⟨g4, 0, none⟩) nO cO) (v5 := .int .i64 q.lim) (fun u hu => by simp at hu; rcases hu with rfl | rfl | rfl | rfl | rfl | rfl <;> rfl)
      have hZ := heap_setCells6 (v0 := .slice (some ⟨g1, 0, none⟩) nN c1) (v1 := .int .i64 q.wh) (v2 := .slice (some ⟨g2, 0, none⟩) nB c2) (v3 := .slice (some ⟨g3, 0, none⟩) nS cS) (v4 := .slice (some ⟨g4, 0, none⟩) nO cO) (v5 := .int .i64 q.lim) h21
      obtain ⟨Y3, hY3⟩ : ∃ Y, Y = Y2.setCells (W.heap.size + 1) 0 [.slice (some ⟨g1, 0, none⟩) nN c1, .int .i64 q.wh, .slice (some ⟨g2, 0, none⟩) nB c2, .slice (some ⟨g3, 0, none⟩) nS cS, .slice (some ⟨g4, 0, none⟩) nO cO, .int .i64 q.lim] := ⟨_, rfl⟩
      rw [← hY3] at s2 hZ
      have HRM : Hid (Rmy W Y3 q ⟨some ⟨g1, 0, none⟩, c1, some ⟨g2, 0, none⟩, c2, some ⟨g3, 0, none⟩, cS, some ⟨g4, 0, none⟩, cO⟩) := by
        have up : ∀ {α : Type} {K : Kd α} {v : Value} {n : Nat} {L : List α}, Rw K W wr v n L → K.e ≠ 27 → Rw K W Y3 v n L := fun {α K v n L} h hK => by
          have z1 := h.set hbk hK (by omega) 3 (.slice (some ⟨g3, 0, none⟩) nS cS)
          rw [← hY1] at z1
          have z2 := z1.set h1k hK (by omega) 4 (.slice (some ⟨g4, 0, none⟩) nO cO)
          rw [← hY2] at z2
          have z3 := z2.setCells hK (j := W.heap.size + 1) (by omega) [.slice (some ⟨g1, 0, none⟩) nN c1, .int .i64 q.wh, .slice (some ⟨g2, 0, none⟩) nB c2, .slice (some ⟨g3, 0, none⟩) nS cS, .slice (some ⟨g4, 0, none⟩) nO cO, .int .i64 q.lim] Y2 0 _ h21
          rw [← hY3] at z3
          exact z3
        exact ⟨up (unhide HR).n (by decide), up (unhide HR).b (by decide), up (unhide HR).s (by decide), up (unhide HR).o (by decide)⟩
      have z0 : Y3.cell? ⟨W.heap.size + 1, 0, none⟩ = some (.slice (some ⟨g1, 0, none⟩) nN c1) := by rw [cell_at hZ]; rfl
      have z1 : Y3.cell? ⟨W.heap.size + 1, 1, none⟩ = some (.int .i64 q.wh) := by rw [cell_at hZ]; rfl
      have z2 : Y3.cell? ⟨W.heap.size + 1, 2, none⟩ = some (.slice (some ⟨g2, 0, none⟩) nB c2) := by rw [cell_at hZ]; rfl
      have z3 : Y3.cell? ⟨W.heap.size + 1, 3, none⟩ = some (.slice (some ⟨g3, 0, none⟩) nS cS) := by rw [cell_at hZ]; rfl
      have z4 : Y3.cell? ⟨W.heap.size + 1, 4, none⟩ = some (.slice (some ⟨g4, 0, none⟩) nO cO) := by rw [cell_at hZ]; rfl
      have z5 : Y3.cell? ⟨W.heap.size + 1, 5, none⟩ = some (.int .i64 q.lim) := by rw [cell_at hZ]; rfl
      clear hbk hb0 h1k h10 h11 h2k h21 hZ hY3 k1 k2 k3 k4
      go_upto_region 12 with fail
      rw [← hY1]
      clear hY1 y3 y3f y0
      go_upto_region 13 with fail
      rw [← hY2]
      clear hY2 y4 y4f y40
      go_wp2_with fail
      have HV : Hid (qV q ⟨some ⟨g1, 0, none⟩, c1, some ⟨g2, 0, none⟩, c2, some ⟨g3, 0, none⟩, cS, some ⟨g4, 0, none⟩, cO⟩ = .agg #[.slice (some ⟨g1, 0, none⟩) nN c1, .int .i64 q.wh, .slice (some ⟨g2, 0, none⟩) nB c2, .slice (some ⟨g3, 0, none⟩) nS cS, .slice (some ⟨g4, 0, none⟩) nO cO, .int .i64 q.lim]) := by
        show _ = _
        rw [unhide HN, unhide HB, unhide HS, unhide HO]; rfl
      refine bodyPost_ret (v := .tuple #[.agg #[.slice (some ⟨g1, 0, none⟩) nN c1, .int .i64 q.wh, .slice (some ⟨g2, 0, none⟩) nB c2, .slice (some ⟨g3, 0, none⟩) nS cS, .slice (some ⟨g4, 0, none⟩) nO cO, .int .i64 q.lim], .slice (some ⟨g1, 0, none⟩) (nN + 64) c1, .slice (some ⟨g2, 0, none⟩) (nB + 64) c2]) (by simp [results, Tryz.results12, go_sem, *]) rfl ⟨⟨some ⟨g1, 0, none⟩, c1, some ⟨g2, 0, none⟩, c2, some ⟨g3, 0, none⟩, cS, some ⟨g4, 0, none⟩, cO⟩, ?_, unhide HRM⟩
      rw [unhide HV, unhide HN, unhide HB]
end Go.Proofs.YtfpbljfebjochaaGreatDoor
