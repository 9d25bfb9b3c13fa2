/- typing: what TypingMore holds. -/
import Derived.Test.YtcelllihidkphaaDoorMoN
import Derived.Test.YtcelllihidkphaaDoorTyU
namespace Go.Proofs.YtcelllihidkphaaDoor
open Go Go.Shelf Go.ChangeShapes Go.WideShapes Go.ChangeAt Go.RowKit Go.Maps
set_option linter.unusedVariables false
set_option maxRecDepth 100000
set_option maxHeartbeats 8000000
/-- what TypingMore holds: its query in a box, its columns, and another query in a second box, whose lists are its own -/
structure Mo (W X : World) (q : Qy) (a : Qa) (r : Qy) (b : Qa) (bq bp : Nat) (lv : Value) (ln : Nat) (LL : List Int) : Prop where
  qb : X.heap[bq]? = some (.cells (qC q a).toArray 32 (0, 0))
  pb : X.heap[bp]? = some (.cells (qC r b).toArray 32 (0, 0))
  tw : Twn W X r b
  ll : Rw kI W X lv ln LL
  lo : W.heap.size ≤ bp
  ne : bq ≠ bp
theorem step_append_run {P : Program} {ops : Array Oper} {o : Oper} {a : Act} {K : Act → World → Prop} {Q : Exit → Act → World → Prop} {E : Prop} (w : World) (hgd : o.guard = none) (s x : Operand) (t : TypeId)
    (ho : o.op = .call { callee := .builtin .append, args := #[s, x], argTypes := #[t, t] }) (v u v' : Value) (w' : World) (hs : a.eval s = v) (hx : a.eval x = u) (hr : (Builtin.append_ #[t, t] o.type #[v, u]).run P w = .ok v' w')
    (h : K (a.put o.dst v') w') : if Region.wanted o (yielded ops a.tmps) = true then Oper.wp P o a w K Q else E := by
  have hw : Region.wanted o (yielded ops a.tmps) = true := by simp [Region.wanted, hgd]
  rw [if_pos hw]
  unfold Oper.wp execOp
  simp only [ho, resolve, invoke, builtin, Sem.run_bind, Sem.run_pure, Result.andThen_ok, List.map_toArray, List.map_cons, List.map_nil, hs, hx, hr]
  exact h
section
variable {W X : World} {q r : Qy} {a b : Qa} {bq bp ln : Nat} {lv : Value} {LL : List Int}
theorem Mo.bel (h : Mo W X q a r b bq bp lv ln LL) : Below W.heap.size W X := h.tw.bel
theorem Mo.ltq (h : Mo W X q a r b bq bp lv ln LL) : bq < X.heap.size := (Array.getElem?_eq_some_iff.1 h.qb).1
theorem Mo.ltp (h : Mo W X q a r b bq bp lv ln LL) : bp < X.heap.size := (Array.getElem?_eq_some_iff.1 h.pb).1
theorem Mo.keep {X' : World} (h : Mo W X q a r b bq bp lv ln LL) (hb : Below X.heap.size X X') : Mo W X' q a r b bq bp lv ln LL :=
  ⟨(hb.block _ h.ltq).trans h.qb, (hb.block _ h.ltp).trans h.pb, h.tw.below hb, h.ll.below hb, h.lo, h.ne⟩
theorem Mo.ldq (h : Mo W X q a r b bq bp lv ln LL) : (ld32 (.pointer (some ⟨bq, 0, none⟩))).run Tryd.prog X = .ok (qV q a) X :=
  run_ld32 (fun j u hu => by rw [Nat.zero_add, cell_at h.qb]; simpa using hu)
theorem Mo.ldp (h : Mo W X q a r b bq bp lv ln LL) : (ld32 (.pointer (some ⟨bp, 0, none⟩))).run Tryd.prog X = .ok (qV r b) X :=
  run_ld32 (fun j u hu => by rw [Nat.zero_add, cell_at h.pb]; simpa using hu)
theorem Mo.cq (h : Mo W X q a r b bq bp lv ln LL) (i : Nat) : X.cell? ⟨bq, i, none⟩ = (qC q a)[i]? := by rw [cell_at h.qb]; simp
theorem Mo.cp (h : Mo W X q a r b bq bp lv ln LL) (i : Nat) : X.cell? ⟨bp, i, none⟩ = (qC r b)[i]? := by rw [cell_at h.pb]; simp
theorem Mo.fp (h : Mo W X q a r b bq bp lv ln LL) (i : Nat) : X.frozen? ⟨bp, i, none⟩ = false := froz_at h.pb
/-- a cell of the second box written -/
theorem Mo.set (h : Mo W X q a r b bq bp lv ln LL) {r' : Qy} {b' : Qa} {i : Nat} {u : Value} (hc : (qC r b).set i u = qC r' b') (hn : Rw kN W X (.slice b'.pN r'.nodes.length b'.cN) r'.nodes.length r'.nodes) (hb : Rw kI W X (.slice b'.pB r'.by'.length b'.cB) r'.by'.length r'.by') (hs : Rw kG W X (.slice b'.pS r'.sh.length b'.cS) r'.sh.length r'.sh) (ho : Rw kO W X (.slice b'.pO r'.ords.length b'.cO) r'.ords.length r'.ords) : Mo W (X.setCell ⟨bp, i, none⟩ u) q a r' b' bq bp lv ln LL := by
  refine ⟨(Below.heap_setCell _ _ _ _ h.ne).trans h.qb, ?_, ⟨hn.set h.pb (by decide) h.lo _ _, hb.set h.pb (by decide) h.lo _ _, hs.set h.pb (by decide) h.lo _ _, ho.set h.pb (by decide) h.lo _ _⟩, h.ll.set h.pb (by decide) h.lo _ _, h.lo, h.ne⟩
  rw [heap_set h.pb, ← hc]
  simp
theorem mo_set (hqb : X.heap[bq]? = some (.cells (qC q a).toArray 32 (0, 0))) (hpb : X.heap[bp]? = some (.cells (qC r b).toArray 32 (0, 0))) (hll : Rw kI W X lv ln LL) (lo : W.heap.size ≤ bp) (ne : bq ≠ bp) {r' : Qy} {b' : Qa} {i : Nat} {u : Value} (hc : (qC r b).set i u = qC r' b') (ht : Twn W X r' b') : Mo W (X.setCell ⟨bp, i, none⟩ u) q a r' b' bq bp lv ln LL := by
  refine ⟨(Below.heap_setCell _ _ _ _ ne).trans hqb, ?_, ⟨ht.n.set hpb (by decide) lo _ _, ht.b.set hpb (by decide) lo _ _, ht.s.set hpb (by decide) lo _ _, ht.o.set hpb (by decide) lo _ _⟩, hll.set hpb (by decide) lo _ _, lo, ne⟩
  rw [heap_set hpb, ← hc]
  simp
/-- another twin laid into the second box -/
theorem Mo.twin (h : Mo W X q a r b bq bp lv ln LL) {w' : World} {b' : Qa} (ht : Twn X w' q b') : (st32 (.pointer (some ⟨bp, 0, none⟩)) (qV q b')).run Tryd.prog w' = .ok () (w'.setCells bp 0 (qC q b')) ∧ Mo W (w'.setCells bp 0 (qC q b')) q a q b' bq bp lv ln LL := by
  have h' := h.keep ht.bel
  have h6 : ∃ x0 x1 x2 x3 x4 x5, (qC r b).toArray = #[x0, x1, x2, x3, x4, x5] := ⟨_, _, _, _, _, _, rfl⟩
  obtain ⟨x0, x1, x2, x3, x4, x5, hx⟩ := h6
  have hpb := h'.pb
  rw [hx] at hpb
  have T := ht.up h.bel
  refine ⟨run_st32 hpb rfl (fun u hu => by simp at hu; rcases hu with rfl | rfl | rfl | rfl | rfl | rfl <;> rfl), ?_, heap_setCells6 hpb, ⟨T.n.setCells (by decide) h.lo _ _ _ _ hpb, T.b.setCells (by decide) h.lo _ _ _ _ hpb, T.s.setCells (by decide) h.lo _ _ _ _ hpb, T.o.setCells (by decide) h.lo _ _ _ _ hpb⟩, h'.ll.setCells (by decide) h.lo _ _ _ _ hpb, h.lo, h.ne⟩
  have : ∀ (vs : List Value) (o : Nat) (w : World), w.heap[bq]? = some (.cells (qC q a).toArray 32 (0, 0)) → (w.setCells bp o vs).heap[bq]? = some (.cells (qC q a).toArray 32 (0, 0)) := fun vs => by
    induction vs with
    | nil => exact fun o w hw => hw
    | cons v vs ih => exact fun o w hw => ih (o + 1) _ ((Below.heap_setCell _ _ _ _ h.ne).trans hw)
  exact this _ _ _ h'.qb
theorem Mo.inq (h : Mo W X q a r b bq bp lv ln LL) (h1 : r.nodes.length ≤ 2600000000000) (h2 : r.by'.length ≤ 17600000000000) (h3 : r.sh.length ≤ 8800000000000) (h4 : r.ords.length ≤ 8800000000000) : QIn X r b := ⟨h.tw.n.lies kN_ok, h.tw.b.lies kI_ok, h.tw.s.lies kG_ok, h.tw.o.lies kO_ok, h1, h2, h3, h4⟩
theorem Mo.like (h : Mo W X q a r b bq bp lv ln LL) (hT : Tab W) (hq : QIn W q a) (hr : QIn X r b) (hl : likS r q = true) : Calls Tryd.prog 15 #[qV r b, qV q a] X fun e w' => e = .returned (.bool true) ∧ Below X.heap.size X w' := by
  have := like_any (hT.below h.bel) hr (hq.below h.bel)
  rw [hl] at this
  exact this
theorem Mo.check (h : Mo W X q a r b bq bp lv ln LL) (hT : Tab W) (hr : QIn X r b) : Calls Tryd.prog 16 #[qV r b] X fun e w' => ∃ p n c, e = .returned (.tuple #[.slice p n c, .int .i64 (chkE r)]) ∧ Rw kI X w' (.slice p n c) n (chkL r) :=
  check_any (hT.below h.bel).f (hT.below h.bel).m (hT.below h.bel).r hr
theorem Mo.twn (h : Mo W X q a r b bq bp lv ln LL) (hq : QIn W q a) (hc : QCp a) : Calls Tryd.prog 14 #[qV q a] X fun e w' => ∃ a', e = .returned (qV q a') ∧ Twn X w' q a' := twin_any (hq.below h.bel) hc
theorem Rw.none {α : Type} {K : Kd α} {W X : World} (h : Below W.heap.size W X) : Rw K W X (.slice none 0 0) 0 [] := ⟨⟨by simp [Kd.flat], .inl ⟨rfl, rfl⟩⟩, h, rfl⟩
theorem set4 (q : Qy) (b : Qa) : (qC q b).set 4 (.slice none 0 0) = qC ⟨q.nodes, q.wh, q.by', q.sh, [], q.lim⟩ ⟨b.pN, b.cN, b.pB, b.cB, b.pS, b.cS, none, 0⟩ := rfl
theorem set5 (q : Qy) (b : Qa) (l : Int) : (qC q b).set 5 (.int .i64 l) = qC ⟨q.nodes, q.wh, q.by', q.sh, q.ords, l⟩ b := rfl
theorem set1 (q : Qy) (b : Qa) (l : Int) : (qC q b).set 1 (.int .i64 l) = qC ⟨q.nodes, l, q.by', q.sh, q.ords, q.lim⟩ b := rfl
theorem set2 (q : Qy) (b : Qa) (L : List Int) (p : Option Addr) (c : Nat) : (qC q b).set 2 (.slice p L.length c) = qC ⟨q.nodes, q.wh, L, q.sh, q.ords, q.lim⟩ ⟨b.pN, b.cN, p, c, b.pS, b.cS, b.pO, b.cO⟩ := rfl
theorem set3 (q : Qy) (b : Qa) (L : List (Int × Int)) (p : Option Addr) (c : Nat) : (qC q b).set 3 (.slice p L.length c) = qC ⟨q.nodes, q.wh, q.by', L, q.ords, q.lim⟩ ⟨b.pN, b.cN, b.pB, b.cB, p, c, b.pO, b.cO⟩ := rfl
theorem set0 (q : Qy) (b : Qa) (L : List Nd) (p : Option Addr) (c : Nat) : (qC q b).set 0 (.slice p L.length c) = qC ⟨L, q.wh, q.by', q.sh, q.ords, q.lim⟩ ⟨p, c, b.pB, b.cB, b.pS, b.cS, b.pO, b.cO⟩ := rfl
theorem Mo.set4 (h : Mo W X q a r b bq bp lv ln LL) : Mo W (X.setCell ⟨bp, 4, none⟩ (.slice none 0 0)) q a ⟨r.nodes, r.wh, r.by', r.sh, [], r.lim⟩ ⟨b.pN, b.cN, b.pB, b.cB, b.pS, b.cS, none, 0⟩ bq bp lv ln LL := h.set (Go.Proofs.YtcelllihidkphaaDoor.set4 r b) h.tw.n h.tw.b h.tw.s (Rw.none h.bel)
theorem Mo.set5 (h : Mo W X q a r b bq bp lv ln LL) (l : Int) : Mo W (X.setCell ⟨bp, 5, none⟩ (.int .i64 l)) q a ⟨r.nodes, r.wh, r.by', r.sh, r.ords, l⟩ b bq bp lv ln LL := h.set (Go.Proofs.YtcelllihidkphaaDoor.set5 r b l) h.tw.n h.tw.b h.tw.s h.tw.o
theorem Mo.set1 (h : Mo W X q a r b bq bp lv ln LL) (l : Int) : Mo W (X.setCell ⟨bp, 1, none⟩ (.int .i64 l)) q a ⟨r.nodes, l, r.by', r.sh, r.ords, r.lim⟩ b bq bp lv ln LL := h.set (Go.Proofs.YtcelllihidkphaaDoor.set1 r b l) h.tw.n h.tw.b h.tw.s h.tw.o
/-- By with one ahead of it -/
theorem Mo.by (h : Mo W X q a q b bq bp lv ln LL) (hq : QIn W q a) (hc : QCp a) (f : Int) : ∃ p c w', (Builtin.append_ #[28, 28] 28 #[.slice (some ⟨X.heap.size, 0, none⟩) 1 1, .slice a.pB q.by'.length a.cB]).run Tryd.prog (X.alloc (.cells #[.int .i64 f] 3)) = .ok (.slice p (1 + q.by'.length) c) w' ∧ w'.cell? ⟨bp, 2, none⟩ = some (.slice b.pB q.by'.length b.cB) ∧ w'.frozen? ⟨bp, 2, none⟩ = false ∧ Mo W (w'.setCell ⟨bp, 2, none⟩ (.slice p (1 + q.by'.length) c)) q a ⟨q.nodes, q.wh, f :: q.by', q.sh, q.ords, q.lim⟩ ⟨b.pN, b.cN, p, c, b.pS, b.cS, b.pO, b.cO⟩ bq bp lv ln LL := by
  have h0 : (X.alloc (.cells #[.int .i64 f] 3)).ownsRow X.heap.size 3 1 (.slice (some ⟨X.heap.size, 0, none⟩) 1 1) 1 (kI.flat [f]) := ⟨rfl, .inr ⟨X.heap.size, 1, #[.int .i64 f], rfl, Nat.le_refl _, heap_new _ _, Nat.le_refl _, by decide, rfl, rfl⟩⟩
  obtain ⟨p8, c8, w8, r8, o8, b8⟩ := run_appW kI_ok 28 (W := X.alloc (.cells #[.int .i64 f] 3)) (M := q.by') (B := X.heap.size) (L := [f]) (n := 1) h0 (by simp) a.pB a.cB hc.b ((hq.b.below h.bel).below (Below.a1 X _)) (by have := hq.nb; omega) (nat_bound (c := 17600000000001) (by have := hq.nb; omega) (by decide))
  have hbX : Below X.heap.size X w8 := (Below.a1 X _).trans b8
  have h8 := h.keep hbX
  have hR : Rw kI W w8 (.slice p8 (1 + q.by'.length) c8) (1 + q.by'.length) (f :: q.by') := ⟨row_le o8 h.bel.size, h8.bel, by simp; omega⟩
  refine ⟨p8, c8, w8, r8, h8.cp 2, h8.fp 2, ?_⟩
  have e : 1 + q.by'.length = (f :: q.by').length := by simp; omega
  rw [e] at hR ⊢
  exact h8.set (Go.Proofs.YtcelllihidkphaaDoor.set2 q b (f :: q.by') p8 c8) h8.tw.n hR h8.tw.s h8.tw.o
/-- a list of the second box with elements behind it -/
theorem Mo.grow {α : Type} {K : Kd α} (hK : KdOK K) (h : Mo W X q a r b bq bp lv ln LL) {p : Option Addr} {c n : Nat} {L M : List α} (hR : Rw K W X (.slice p n c) n L) (hne : K.e ≠ 32) (vs : Array Value) (hv : vs.toList = K.flat M) (hn : n + M.length ≤ 70000000000000) (hb : (n + M.length + (n + M.length) / 4 + 192) * K.by' ≤ 281474976710656) (hm : vs.size = M.length * K.s) (hlM : M.length ≤ 10) :
    ∃ p' c' w', (Builtin.append_ #[K.t, K.t] K.t #[.slice p n c, .slice (some ⟨X.heap.size, 0, none⟩) M.length M.length]).run Tryd.prog (X.alloc (.cells vs K.e)) = .ok (.slice p' (n + M.length) c') w' ∧ Rw K W w' (.slice p' (n + M.length) c') (n + M.length) (L ++ M) ∧
      (∀ {β : Type} {J : Kd β} {v' : Value} {n' : Nat} {L' : List β}, Rw J W X v' n' L' → J.e ≠ K.e → Rw J W w' v' n' L') ∧ (∀ {k : Nat} {cs : Array Value}, X.heap[k]? = some (.cells cs 32 (0, 0)) → w'.heap[k]? = some (.cells cs 32 (0, 0))) := by
  have hl : Lies K (X.alloc (.cells vs K.e)) (some ⟨X.heap.size, 0, none⟩) M := by
    have h0 : (X.alloc (.cells vs K.e)).ownsRow X.heap.size K.e K.s (.slice (some ⟨X.heap.size, 0, none⟩) M.length M.length) M.length (K.flat M) := ⟨by rw [flat_len hK], .inr ⟨X.heap.size, M.length, vs, rfl, Nat.le_refl _, heap_new _ _, Nat.le_refl _, by unfold maxLen; omega, hm, by rw [hv]; exact List.take_of_length_le (by rw [flat_len hK]; exact Nat.le_refl _)⟩⟩
    exact own_lies hK rfl h0
  obtain ⟨i, z, hi, hz, hsize, hby, hzs⟩ := hK.info
  obtain ⟨v', w', hr, ho, hg, hnil⟩ := run_append_own_wide (P := Tryd.prog) (X.alloc (.cells vs K.e)) W.heap.size K.t K.t K.e i z K.s K.by' hK.und hi hz hsize hby hzs hK.pos (.slice p n c) n (K.flat L) (hR.row.alloc _) ⟨X.heap.size, 0, none⟩ M.length M.length (K.flat M) (flat_len hK M) (news_of hK hl) (flat_one hK M) (by unfold maxLen; omega) hb (Nat.le_trans hR.bel.size (by simp))
  have ho2 : w'.ownsRow W.heap.size K.e K.s v' (n + M.length) (K.flat (L ++ M)) := by rw [flat_append]; exact ho
  obtain ⟨p8, c8, e8, _⟩ := row_slice ho2
  subst e8
  have hblk : ∀ k, k < X.heap.size → (Value.slice p n c).ownBlock ≠ some k → w'.heap[k]? = X.heap[k]? := fun k hk hne' => (hg.block k (by simp; omega) (fun e => hne' e.symm)).trans (Below.heap_alloc _ _ _ hk)
  have hrow : ∀ {k : Nat} {cs : Array Value} {t : TypeId}, X.heap[k]? = some (.cells cs t (0, 0)) → t ≠ K.e → w'.heap[k]? = X.heap[k]? := fun {k cs t} hk ht => by
    refine hblk k (Array.getElem?_eq_some_iff.1 hk).1 (fun e => ?_)
    obtain ⟨cur, hc⟩ := row_type hR e
    rw [hk] at hc
    injection hc with hc
    injection hc with h1 h2
    exact ht h2
  have hbel : Below W.heap.size W w' := ⟨hg.os.trans hR.bel.os, hg.tape.trans hR.bel.tape, hg.output.trans hR.bel.output, Nat.le_trans hR.bel.size (Nat.le_trans (by simp) hg.size), fun k hk => by
    refine (hblk k (Nat.lt_of_lt_of_le hk hR.bel.size) (fun e => ?_)).trans (hR.bel.block k hk)
    have := (row_block hR.row e).1
    omega⟩
  refine ⟨p8, c8, w', hr, ⟨ho2, hbel, by rw [List.length_append, hR.len]⟩, fun {β J v' n' L'} hJ hJe => ?_, fun {k cs} hk => (hrow hk (fun e => hne e.symm)).trans hk⟩
  refine ⟨row_keep hJ.row (fun g hg' => ?_), hbel, hJ.len⟩
  obtain ⟨cur, hc⟩ := row_type hJ hg'
  exact hrow hc hJe
theorem Mo.sh (h : Mo W X q a q b bq bp lv ln LL) (hq : QIn W q a) (x : Int × Int) : ∃ p c w', (Builtin.append_ #[29, 29] 29 #[.slice b.pS q.sh.length b.cS, .slice (some ⟨X.heap.size, 0, none⟩) 1 1]).run Tryd.prog (X.alloc (.cells #[.int .i64 x.1, .int .i64 x.2] 45)) = .ok (.slice p (q.sh.length + 1) c) w' ∧ (Below W.heap.size W w' ∧ w'.heap[bq]? = some (.cells (qC q a).toArray 32 (0, 0))) ∧ w'.cell? ⟨bp, 3, none⟩ = some (.slice b.pS q.sh.length b.cS) ∧ w'.frozen? ⟨bp, 3, none⟩ = false ∧ Mo W (w'.setCell ⟨bp, 3, none⟩ (.slice p (q.sh.length + 1) c)) q a ⟨q.nodes, q.wh, q.by', q.sh ++ [x], q.ords, q.lim⟩ ⟨b.pN, b.cN, b.pB, b.cB, p, c, b.pO, b.cO⟩ bq bp lv ln LL := by
  obtain ⟨p8, c8, w8, r8, R8, k8, b8⟩ := h.grow kG_ok h.tw.s (by decide) (M := [x]) #[.int .i64 x.1, .int .i64 x.2] rfl (by have := hq.ns; simp; omega) (nat_bound (c := 8800000000001) (by have := hq.ns; simp; omega) (by decide)) rfl (by simp)
  have hc3 : w8.cell? ⟨bp, 3, none⟩ = some (.slice b.pS q.sh.length b.cS) := by rw [cell_at (b8 h.pb)]; rfl
  refine ⟨p8, c8, w8, r8, ⟨R8.bel, b8 h.qb⟩, hc3, froz_at (b8 h.pb), ?_⟩
  have e : q.sh.length + 1 = (q.sh ++ [x]).length := by simp
  have R9 : Rw kG W w8 (.slice p8 (q.sh ++ [x]).length c8) (q.sh ++ [x]).length (q.sh ++ [x]) := by rw [← e]; exact R8
  rw [e]
  exact mo_set (b8 h.qb) (b8 h.pb) (k8 h.ll (by decide)) h.lo h.ne (Go.Proofs.YtcelllihidkphaaDoor.set3 q b (q.sh ++ [x]) p8 c8) ⟨k8 h.tw.n (by decide), k8 h.tw.b (by decide), R9, k8 h.tw.o (by decide)⟩
theorem Mo.nds (h : Mo W X q a q b bq bp lv ln LL) (hq : QIn W q a) (x y : Nd) : ∃ p c w', (Builtin.append_ #[27, 27] 27 #[.slice b.pN q.nodes.length b.cN, .slice (some ⟨X.heap.size, 0, none⟩) 2 2]).run Tryd.prog (X.alloc (.cells #[.int .i64 x.op, .int .i64 x.left, .int .i64 x.right, .int .i64 x.field, .int .i64 x.num, .string x.text, .int .i64 y.op, .int .i64 y.left, .int .i64 y.right, .int .i64 y.field, .int .i64 y.num, .string y.text] 37)) = .ok (.slice p (q.nodes.length + 2) c) w' ∧ w'.cell? ⟨bp, 0, none⟩ = some (.slice b.pN q.nodes.length b.cN) ∧ w'.frozen? ⟨bp, 0, none⟩ = false ∧ Mo W (w'.setCell ⟨bp, 0, none⟩ (.slice p (q.nodes.length + 2) c)) q a ⟨q.nodes ++ [x, y], q.wh, q.by', q.sh, q.ords, q.lim⟩ ⟨p, c, b.pB, b.cB, b.pS, b.cS, b.pO, b.cO⟩ bq bp lv ln LL := by
  obtain ⟨p8, c8, w8, r8, R8, k8, b8⟩ := h.grow kN_ok h.tw.n (by decide) (M := [x, y]) #[.int .i64 x.op, .int .i64 x.left, .int .i64 x.right, .int .i64 x.field, .int .i64 x.num, .string x.text, .int .i64 y.op, .int .i64 y.left, .int .i64 y.right, .int .i64 y.field, .int .i64 y.num, .string y.text] rfl (by have := hq.nn; simp; omega) (nat_bound (c := 2600000000002) (by have := hq.nn; simp; omega) (by decide)) rfl (by simp)
  have hc3 : w8.cell? ⟨bp, 0, none⟩ = some (.slice b.pN q.nodes.length b.cN) := by rw [cell_at (b8 h.pb)]; rfl
  refine ⟨p8, c8, w8, r8, hc3, froz_at (b8 h.pb), ?_⟩
  have e : q.nodes.length + 2 = (q.nodes ++ [x, y]).length := by simp
  have R9 : Rw kN W w8 (.slice p8 (q.nodes ++ [x, y]).length c8) (q.nodes ++ [x, y]).length (q.nodes ++ [x, y]) := by rw [← e]; exact R8
  rw [e]
  exact mo_set (b8 h.qb) (b8 h.pb) (k8 h.ll (by decide)) h.lo h.ne (Go.Proofs.YtcelllihidkphaaDoor.set0 q b (q.nodes ++ [x, y]) p8 c8) ⟨R9, k8 h.tw.b (by decide), k8 h.tw.s (by decide), k8 h.tw.o (by decide)⟩
end
end Go.Proofs.YtcelllihidkphaaDoor
