/- disk: Append (23): the append itself, and what it leaves of a disk. -/
import Derived.Test.YtpeohbkigkfcgaaDkF
import Derived.Deep.RegionHeldLaw
import Derived.Deep.RegionHeld3
namespace Go.Proofs.Ytpeohbkigkfcgaa
open Go Go.Shelf Go.ChangeShapes Go.WideShapes Go.ChangeAt Go.RowKit
set_option linter.unusedVariables false
/-- bytes that lie somewhere -/
def BytesAt (W : World) (u : Value) (bs : List UInt8) : Prop :=
  (u = .slice none 0 0 ∧ bs = []) ∨ ∃ b off c, u = .slice (some ⟨b, off, none⟩) bs.length c ∧ ∀ j u, (bcs bs)[j]? = some u → W.cell? ⟨b, off + j, none⟩ = some u
theorem BytesAt.far {W W' : World} {u : Value} {bs : List UInt8} (h : BytesAt W u bs) (hq : ∀ q, u.ownBlock = some q → W'.heap[q]? = W.heap[q]?) : BytesAt W' u bs := by
  rcases h with h | ⟨b, off, c, rfl, h⟩
  · exact .inl h
  · exact .inr ⟨b, off, c, rfl, fun j u hj => (World.cell?_of_block (a := ⟨b, off + j, none⟩) (hq b rfl)).trans (h j u hj)⟩
theorem BytesAt.of_row {W : World} {base : Nat} {v : Value} {bs : List UInt8} (h : W.ownsRow base 5 1 v bs.length (bcs bs)) : BytesAt W v bs := by
  rcases h.2 with ⟨h1, h2⟩ | ⟨g, cap, cur, rfl, rest⟩
  · exact .inl ⟨h1, List.eq_nil_of_length_eq_zero h2⟩
  · exact .inr ⟨g, 0, cap, rfl, fun j u hj => by have := h.cells (g := g) rfl j u hj; rw [Addr.add_mid] at this; exact this⟩
theorem row_cut {w' : World} {base g n m cap : Nat} {xs ys : List Value} (hl : xs.length = n) (h : w'.ownsRow base 5 1 (.slice (some ⟨g, 0, none⟩) (n + m) cap) (n + m) (xs ++ ys)) : w'.ownsRow base 5 1 (.slice (some ⟨g, 0, none⟩) n cap) n xs := by
  refine ⟨by omega, .inr ?_⟩
  rcases h.2 with ⟨h1, _⟩ | ⟨g', cap', cur, he, hb, hc, h1, h2, h3, h4⟩
  · cases h1
  · simp only [Value.slice.injEq, Option.some.injEq, Addr.mk.injEq, true_and, and_true] at he
    obtain ⟨rfl, rfl⟩ := he
    refine ⟨g, cap, cur, rfl, hb, hc, by omega, h2, h3, ?_⟩
    rw [Nat.mul_one] at h4 ⊢
    have h5 : cur.toList.take n = (cur.toList.take (n + m)).take n := by rw [List.take_take]; congr 1; omega
    rw [h5, h4, List.take_append_of_le_length (by omega), List.take_of_length_le (by omega)]
theorem run_append_b (w : World) (ty : TypeId) (v : Value) (bs : List UInt8) (hown : w.ownsRow 0 5 1 v bs.length (bcs bs)) (u : Value) (b2 : List UInt8) (hu : BytesAt w u b2) (hb : bs.length + b2.length ≤ 140737488351232) :
    ∃ p c w', (Builtin.append_ #[27, 27] ty #[v, u]).run Try.prog w = .ok (.slice p (bs ++ b2).length c) w' ∧ w'.ownsRow 0 5 1 (.slice p (bs ++ b2).length c) (bs ++ b2).length (bcs (bs ++ b2)) ∧ w'.ownsRow 0 5 1 v bs.length (bcs bs) ∧
      (((Value.slice p (bs ++ b2).length c).ownBlock = v.ownBlock ∧ w.grownBy w' v.ownBlock) ∨ ((Value.slice p (bs ++ b2).length c).ownBlock = some w.heap.size ∧ w.grownBy w' none)) := by
  obtain ⟨i, hi, hz, hsize, hby⟩ := info_parts info5
  rcases hu with ⟨rfl, rfl⟩ | ⟨b, off, c, rfl, hcell⟩
  · have hr := run_append_owned_none (P := Try.prog) (w := w) 0 27 ty 5 i 1 Try.underlying27 hi v bs.length _ hown
    have hv : ∃ p c, v = .slice p bs.length c := by
      rcases hown.2 with ⟨h1, h2⟩ | ⟨g, cap, cur, rfl, _⟩
      · exact ⟨none, 0, by rw [h1, h2]⟩
      · exact ⟨_, _, rfl⟩
    obtain ⟨p, c, rfl⟩ := hv
    rw [List.append_nil]
    exact ⟨p, c, w, hr, hown, hown, .inl ⟨rfl, ⟨rfl, rfl, rfl, Nat.le_refl _, fun _ _ _ => rfl⟩⟩⟩
  · have hnews : ∀ j u, (bcs b2)[j]? = some u → w.cell? ((⟨b, off, none⟩ : Addr).add j) = some u := fun j u hj => by rw [Addr.add_mid]; exact hcell j u hj
    rw [List.length_append, bcs_append]
    obtain ⟨v', w', hr, ho, hg, hnil, hat⟩ := run_append_own_at (P := Try.prog) w 0 27 ty 5 i (.int .u8 0) 1 1 Try.underlying27 hi hz hsize hby rfl (by decide) v bs.length _ hown ⟨b, off, none⟩ b2.length c (bcs b2) (by rw [bcs_len]; omega) hnews (bcs_one _) (by unfold maxLen; omega) (by omega) (by omega)
    have hv : ∃ p c, v' = .slice p (bs.length + b2.length) c := by
      rcases ho.2 with ⟨h1, h2⟩ | ⟨g, cap, cur, rfl, _⟩
      · exact ⟨none, 0, by rw [h1, h2]⟩
      · exact ⟨_, _, rfl⟩
    obtain ⟨p', c', rfl⟩ := hv
    rcases hown.2 with ⟨rfl, h0⟩ | ⟨g0, cap0, cur, rfl, hb0, hcur, hnc, hcm, hcs, htake⟩
    · refine ⟨p', c', w', hr, ho, ?_, hat.imp (fun h => ⟨h, hg⟩) (fun h => ⟨h, hg⟩)⟩
      have : bs = [] := List.eq_nil_of_length_eq_zero h0
      subst this
      exact World.ownsRow_nil _ _ _ _
    · by_cases hf : bs.length + b2.length ≤ cap0
      · obtain ⟨w2, hr3, ho3, hg3⟩ := run_append_fits (P := Try.prog) w 0 27 ty 5 i 1 Try.underlying27 hi hsize g0 bs.length cap0 _ hown ⟨b, off, none⟩ b2.length c (bcs b2) (by rw [bcs_len]; omega) hnews (bcs_one _) hf
        exact ⟨_, _, w2, hr3, ho3, row_cut (bcs_len bs) ho3, .inl ⟨rfl, hg3⟩⟩
      · have hr2 := run_append_grow (P := Try.prog) w 27 ty 5 i (.int .u8 0) Try.underlying27 hi hz ⟨g0, 0, none⟩ bs.length cap0 (bcs bs) (by rw [hsize, bcs_len]; omega) (hown.cells (g := g0) rfl) ⟨b, off, none⟩ b2.length c (bcs b2) (by rw [hsize, bcs_len]; omega) hnews (by omega) (by omega) (by rw [hby]; exact growslice_fits (by omega) (by omega))
        have hr4 := hr
        rw [hr2] at hr4
        injection hr4 with e1 e2
        have hg2 : w.grownBy w' none := by
          rw [← e2]
          exact ⟨rfl, rfl, rfl, by simp, fun k hk _ => Below.heap_alloc _ _ _ hk⟩
        refine ⟨p', c', w', hr, ho, own_below hown (below_of_grown hg2), .inr ⟨?_, hg2⟩⟩
        rw [← e1]
        rfl
/-- the same at an operation of a region that draws -/
theorem step_append_b {ops : Array Oper} {o : Oper} {a : Act} {K : Act → World → Prop} {Q : Exit → Act → World → Prop} {E : Prop} (w : World) (hgd : o.guard = none) (s x : Operand)
    (ho : o.op = .call { callee := .builtin .append, args := #[s, x], argTypes := #[27, 27] })
    (v : Value) (bs : List UInt8) (hs : a.eval s = v) (hown : w.ownsRow 0 5 1 v bs.length (bcs bs)) (u : Value) (b2 : List UInt8) (hx : a.eval x = u) (hu : BytesAt w u b2) (hb : bs.length + b2.length ≤ 140737488351232) (b3 : List UInt8) (hb3 : b3 = bs ++ b2)
    (h : ∀ p c w', w'.ownsRow 0 5 1 (.slice p b3.length c) b3.length (bcs b3) → w'.ownsRow 0 5 1 v bs.length (bcs bs) → (((Value.slice p b3.length c).ownBlock = v.ownBlock ∧ w.grownBy w' v.ownBlock) ∨ ((Value.slice p b3.length c).ownBlock = some w.heap.size ∧ w.grownBy w' none)) → K (a.put o.dst (.slice p b3.length c)) w') :
    if Region.wanted o (yielded ops a.tmps) = true then Oper.wp Try.prog o a w K Q else E := by
  subst hb3
  have hw : Region.wanted o (yielded ops a.tmps) = true := by simp [Region.wanted, hgd]
  rw [if_pos hw]
  obtain ⟨p, c, w', hr, h2, h3, h4⟩ := run_append_b w o.type v bs hown u b2 hu hb
  unfold Oper.wp execOp
  simp only [ho, resolve, invoke, builtin, Sem.run_bind, Sem.run_pure, Result.andThen_ok, List.map_toArray, List.map_cons, List.map_nil, hs, hx, hr]
  exact h p c w' h2 h3 h4
theorem All2.imp_mem {α β : Type} {R R' : α → β → Prop} {l : List α} {m : List β} (h : All2 R l m) : (∀ e ∈ l, ∀ a, R e a → R' e a) → All2 R' l m := by
  induction h with
  | nil => intro _; exact .nil
  | cons h1 _ ih => intro hi; exact .cons (hi _ (by simp) _ h1) (ih (fun e he => hi e (by simp [he])))
/-- a disk behind an append to one of its files' bytes -/
theorem DiskIs.grows {w w' : World} {d N n : Nat} {K : Dk} {S : Nat → Prop} {mo : Option Nat} {es : List (Lit × DataW Value)} (h : DiskIs w d N K S mo n es) {s : ByteArray} {p : Option Addr} {m c : Nat} {y : Int} {x : Fl} (hh : Hit w s K es p m c y x) (v' : Value) {k : Nat} {xs : List Value} (hrow' : w'.ownsRow 0 5 1 v' k xs) (hold : w'.ownsRow 0 5 1 (.slice p m c) m (bcs x.bs))
    (hg : ((v'.ownBlock = (Value.slice p m c).ownBlock ∧ w.grownBy w' (Value.slice p m c).ownBlock) ∨ (v'.ownBlock = some w.heap.size ∧ w.grownBy w' none))) :
    DiskIs w' d N K (fun q => S q ∨ v'.ownBlock = some q) mo n es ∧ Sep w w' S (fun q => S q ∨ v'.ownBlock = some q) ∧ (∀ q, v'.ownBlock = some q → (S q ∨ v'.ownBlock = some q) ∧ q ≠ d ∧ mo ≠ some q ∧ ∀ e ∈ es, e.1 ≠ .string s.data.toList → blk e ≠ some q) := by
  have hown := hh.own h
  have hdl := h.at'.lt
  have hgr : w.grownBy w' (Value.slice p m c).ownBlock := hg.elim (·.2) (fun h2 => ⟨h2.2.os, h2.2.tape, h2.2.output, h2.2.size, fun k hk _ => h2.2.block k hk (by simp)⟩)
  have hkeep : ∀ q, q < w.heap.size → (Value.slice p m c).ownBlock ≠ some q → w'.heap[q]? = w.heap[q]? := fun q hq hne => hgr.block q hq (fun e => hne e.symm)
  have hblk : w'.heap[d]? = w.heap[d]? := hkeep d hdl (fun e => (hown d e).2.1 rfl)
  have hmb : ∀ b, mo = some b → b < w.heap.size := fun b hb => h.sl b (h.mb b hb).2.1
  have hfiles : (mo = none ∧ DataW.map es = .map []) ∨ ∃ b, mo = some b ∧ w'.ownsMap Try.prog 9 fileElem b n (.map es) := by
    rcases h.at'.files with h1 | ⟨b, h1, h2⟩
    · exact .inl h1
    · exact .inr ⟨b, h1, h2.kept hgr (fun e => (hown b e.symm).2.2.1 h1)⟩
  have hall : All2 (FileAt w') es K.A := by
    have hfa : ∀ e ∈ es, ∀ a, FileAt w e a → FileAt w' e a := by
      intro e he a ha
      by_cases hq : ∃ q, blk e = some q ∧ (Value.slice p m c).ownBlock = some q
      · obtain ⟨q, hq1, hq2⟩ := hq
        have hee : e = (Lit.string s.data.toList, DataW.held (.agg #[.slice p m c, .int .i64 y])) := by
          refine Classical.byContradiction fun hne => ?_
          exact apart_two h.fs.apart e he _ hh.mem hne q hq1 hq2
        subst hee
        obtain ⟨f1, p', c', f2, f3⟩ := ha
        refine ⟨f1, p', c', f2, ?_⟩
        simp only [DataW.held.injEq, Value.agg.injEq] at f2
        have e3 := congrArg Array.toList f2
        simp only [List.cons.injEq, Value.slice.injEq, Value.int.injEq, true_and, and_true] at e3
        obtain ⟨⟨g1, g2, g3⟩, g4⟩ := e3
        subst g1 g2 g3
        have hc1 : bcs a.2.bs = bcs x.bs := by
          rcases f3.2 with ⟨_, h0⟩ | ⟨g, cap, cur, he1, _, hc1, _, _, _, ht1⟩
          · have h01 : a.2.bs = [] := List.eq_nil_of_length_eq_zero h0
            have h02 : x.bs = [] := List.eq_nil_of_length_eq_zero (by rw [← hh.len, h0])
            rw [h01, h02]
          · rcases hh.row.2 with ⟨h1, _⟩ | ⟨g', cap', cur', he2, _, hc2, _, _, _, ht2⟩
            · rw [h1] at hq2; cases hq2
            · rw [he1] at he2
              simp only [Value.slice.injEq, Option.some.injEq, Addr.mk.injEq, true_and, and_true] at he2
              obtain ⟨rfl, _⟩ := he2
              rw [hc1] at hc2
              injection hc2 with hc2
              injection hc2 with hc2
              subst hc2
              rw [← ht1, ← ht2]
        rw [hc1]
        exact hold
      · refine ha.far (fun q hq' => hkeep q (ha.lt hq') (fun e2 => hq ⟨q, hq', e2⟩))
    exact h.fs.all.imp_mem hfa
  have hv'l : ∀ q, v'.ownBlock = some q → q < w'.heap.size := fun q hq => (hrow'.lt q hq).2
  refine ⟨⟨⟨(World.cell?_of_block (a := ⟨d, 0, none⟩) hblk).trans h.at'.c0, (World.cell?_of_block (a := ⟨d, 1, none⟩) hblk).trans h.at'.c1, (World.cell?_of_block (a := ⟨d, 2, none⟩) hblk).trans h.at'.c2, (World.cell?_of_block (a := ⟨d, 3, none⟩) hblk).trans h.at'.c3, hfiles⟩, ⟨hall, h.fs.apart⟩, h.nle, fun b hb => ⟨(h.mb b hb).1, .inl (h.mb b hb).2.1, (h.mb b hb).2.2⟩, h.db, fun e he q hq => .inl (h.eb e he q hq), fun j => (World.frozen?_of_block (a := ⟨d, j, none⟩) hblk).trans (h.fz j), .inl h.sd, fun q hq => hq.elim (fun h' => Nat.lt_of_lt_of_le (h.sl q h') hgr.size) (hv'l q)⟩, ⟨hgr.os, hgr.tape, hgr.output, hgr.size, fun q hq hS => hkeep q hq (fun e => hS (hown q e).1), fun q hq => hq.elim .inl (fun e => ?_)⟩, ?_⟩
  · rcases hg with ⟨h1, _⟩ | ⟨h1, _⟩
    · rw [h1] at e; exact .inl (hown q e).1
    · rw [h1] at e; injection e with e; exact .inr (by omega)
  · intro q hq
    refine ⟨.inr hq, ?_⟩
    rcases hg with ⟨h1, _⟩ | ⟨h1, _⟩
    · rw [h1] at hq; exact (hown q hq).2
    · rw [h1] at hq; injection hq with hq
      subst hq
      exact ⟨by omega, fun e => by have := hmb _ e; omega, fun e he _ hq => by have := h.lt he hq; omega⟩
end Go.Proofs.Ytpeohbkigkfcgaa
