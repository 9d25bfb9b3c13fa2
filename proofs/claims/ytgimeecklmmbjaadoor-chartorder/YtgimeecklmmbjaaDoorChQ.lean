/- ChartTwins and its kin: answer (10). -/
import Derived.Test.YtgimeecklmmbjaaDoorChO
namespace Go.Proofs.YtgimeecklmmbjaaDoor
open Go Go.Shelf Go.ChangeShapes Go.WideShapes Go.ChangeAt Go.RowKit Go.Maps Go.Sort
set_option linter.unusedVariables false
theorem close_zero {L : List Ac} {x : Nm} (h : closeE L x = 0) : ∃ a, fnd L x = some a ∧ a.cl = false ∧ useB L x = false := by
  unfold closeE at h
  cases hf : fnd L x with
  | none => rw [hf] at h; exact absurd (show (61 : Int) = 0 from h) (by decide)
  | some a =>
    rw [hf] at h
    have h' : (if a.cl = true then (63 : Int) else if useB L x = true then 65 else 0) = 0 := h
    by_cases h1 : a.cl = true
    · rw [if_pos h1] at h'; exact absurd h' (by decide)
    · rw [if_neg h1] at h'
      by_cases h2 : useB L x = true
      · rw [if_pos h2] at h'; exact absurd h' (by decide)
      · exact ⟨a, rfl, by simpa using h1, by simpa using h2⟩
theorem Good.close {L : List Ac} (hG : Good L) {x : Nm} (h : closeE L x = 0) : Good (clA L x) := by
  obtain ⟨a0, hf0, _, hu⟩ := close_zero h
  obtain ⟨ha0, hax⟩ := fnd_some hf0
  have hnm : ∀ b : Ac, (if b.nm = x then { b with cl := true } else b : Ac).nm = b.nm ∧ (if b.nm = x then { b with cl := true } else b : Ac).ty = b.ty ∧ (if b.nm = x then { b with cl := true } else b : Ac).dy = b.dy := fun b => by split <;> exact ⟨rfl, rfl, rfl⟩
  refine ⟨?_, fun b hb => ?_, fun b hb p t e => ?_, fun b hb => ?_, fun b hb => ?_, by rw [clA, List.length_map]; exact hG.len⟩
  · unfold clA
    rw [List.pairwise_map]
    exact hG.rise.imp (fun {a b} h => by rw [(hnm a).1, (hnm b).1]; exact h)
  · obtain ⟨c, hc, rfl⟩ := mem_clA.1 hb
    rw [(hnm c).1]
    exact hG.name c hc
  · obtain ⟨c, hc, rfl⟩ := mem_clA.1 hb
    rw [(hnm c).1] at e
    obtain ⟨q, hq, hqp, h1, h2, h3⟩ := hG.up c hc p t e
    refine ⟨_, mem_clA.2 ⟨q, hq, rfl⟩, by rw [(hnm q).1]; exact hqp, by rw [(hnm q).2.1, (hnm c).2.1]; exact h1, by rw [(hnm q).2.2, (hnm c).2.2]; exact h2, fun hcl => ?_⟩
    by_cases ec : c.nm = x
    · rw [if_pos ec]
    · rw [if_neg ec]
      by_cases eq : q.nm = x
      · by_cases hcc : c.cl = true
        · exact hcc
        · exfalso
          have hun : useB L x = true := by
            simp only [useB, List.any_eq_true, Bool.and_eq_true, decide_eq_true_eq, Bool.not_eq_true']
            refine ⟨c, hc, ?_, by simpa using hcc⟩
            rw [anc, e, ← eq, hqp]
            simp
          rw [hu] at hun
          cases hun
      · rw [if_neg eq] at hcl
        exact h3 hcl
  · obtain ⟨c, hc, rfl⟩ := mem_clA.1 hb
    rw [(hnm c).2.2]
    exact hG.day c hc
  · obtain ⟨c, hc, rfl⟩ := mem_clA.1 hb
    rw [(hnm c).2.1]
    exact hG.typ c hc
/-- a call, as it comes in -/
structure Av where
  who : Int
  kind : Int
  typ : Int
  day : Int
  nam : ByteArray
  ask : ByteArray
def Av.val (v : Av) : Value := .agg #[.int .i64 v.who, .int .i64 v.kind, .int .i64 v.typ, .int .i64 v.day, .string v.nam, .string v.ask]
structure Av.ok (v : Av) : Prop where
  typ : -9223372036854775808 ≤ v.typ ∧ v.typ ≤ 9223372036854775807
  nam : v.nam.size < 4611686018427387904
abbrev Av.x (v : Av) : Nm := v.nam.data.toList
/-- what it answers, and what it makes of the accounts -/
def ansE (L : List Ac) (v : Av) : Int := if v.kind = 1 then openE L v.x v.typ v.day else if v.kind = 2 then closeE L v.x else if v.kind = 3 then mayE L v.x v.day else 0
def nxtL (L : List Ac) (v : Av) : List Ac := if v.kind = 1 then openL L v.x v.typ v.day else if v.kind = 2 then (if closeE L v.x = 0 then clA L v.x else L) else L
theorem Good.nxt {L : List Ac} (hG : Good L) (v : Av) : Good (nxtL L v) := by
  unfold nxtL
  split
  · unfold openL
    split
    · exact hG.ins (open_fits hG ‹_›)
    · exact hG
  · split
    · split
      · exact hG.close ‹_›
      · exact hG
    · exact hG
theorem nxt_err {L : List Ac} {v : Av} (h : ansE L v ≠ 0 ∨ v.kind = 3) : nxtL L v = L := by
  unfold nxtL
  unfold ansE at h
  by_cases h1 : v.kind = 1
  · rw [if_pos h1] at h ⊢
    rcases h with h | h
    · rw [openL, if_neg h]
    · omega
  · rw [if_neg h1] at h ⊢
    by_cases h2 : v.kind = 2
    · rw [if_pos h2] at h ⊢
      rcases h with h | h
      · rw [if_neg h]
      · omega
    · rw [if_neg h2]
theorem chg_from {W X w' : World} {d : Nat} {S : Nat → Prop} {L : List Ac} (hb : Below W.heap.size W X) (h : Chg X d S L w') : Chg W d S L w' := by
  obtain ⟨S', g', h1, h2, h3⟩ := h
  exact ⟨S', g', h1, fun k hk => (h2 k hk).imp (fun h => h) (fun h => Nat.le_trans hb.size h), ⟨h3.os.trans hb.os, h3.tape.trans hb.tape, h3.output.trans hb.output, Nat.le_trans hb.size h3.size, fun k hk hs => (h3.block k (Nat.lt_of_lt_of_le hk hb.size) hs).trans (hb.block k hk)⟩⟩
theorem chg_close {X w' : World} {d : Nat} {S : Nat → Prop} {L : List Ac} {g : Gh} {x : Nm} (h : Ct X d S L g) (hc : CloseOut X d S L g x w') : Chg X d S (if closeE L x = 0 then clA L x else L) w' := by
  rcases hc with ⟨h1, h2, h3⟩ | ⟨h1, h2⟩
  · rw [if_pos h1]
    exact ⟨S, g, ⟨h2, h.good.close h1, fun k hk => Nat.lt_of_lt_of_le (h.inh k hk) h3.size⟩, fun k hk => .inl hk, h3⟩
  · rw [if_neg h1]
    exact Chg.below h h2
set_option maxRecDepth 100000 in
set_option maxHeartbeats 4000000 in
theorem answer_any {W : World} {d : Nat} {S : Nat → Prop} {L : List Ac} {g : Gh} (h : Ct W d S L g) (v : Av) (hv : v.ok) :
    Calls Tryd.prog 10 #[ptr d, v.val] W fun e w' => e = .returned (.int .i64 (ansE L v)) ∧ Chg W d S (nxtL L v) w' := by
  obtain ⟨Y, hY⟩ : ∃ Y, Y = W.alloc (.cells #[.int .i64 v.who, .int .i64 v.kind, .int .i64 v.typ, .int .i64 v.day, .string v.nam, .string v.ask] 33) := ⟨_, rfl⟩
  have yb : Below W.heap.size W Y := by rw [hY]; exact (Below.refl _ W).alloc (Nat.le_refl _) _
  have yA : Y.heap[W.heap.size]? = some (.cells #[.int .i64 v.who, .int .i64 v.kind, .int .i64 v.typ, .int .i64 v.day, .string v.nam, .string v.ask] 33) := by rw [hY]; exact World.alloc_heap_new W _
  have hct := h.below yb
  obtain ⟨E, hE⟩ : ∃ E, E = ansE L v := ⟨_, rfl⟩
  obtain ⟨M, hM⟩ : ∃ M, M = nxtL L v := ⟨_, rfl⟩
  rw [← hE, ← hM]
  unfold Av.val
  unfold ansE at hE
  unfold nxtL at hM
  have YB := hide yb
  by_cases h1 : v.kind = 1
  · rw [if_pos h1] at hE hM
    have dO := hide (open_any hct v.nam hv.nam v.typ v.day hv.typ)
    rw [hY, ← hE] at dO
    have h1b : (v.kind == 1) = true := by simp [h1]
    have HM := hide hM; have HY := hide hY
    clear hM hE hY yb yA hct h h1
    go_enter Tryd.func10, Tryd.ntmps10
    go_wp2_with (go_at_call 15; refine (unhide dO).mono ?_; rintro e X ⟨rfl, ho⟩; have HO := hide ho; clear ho)
    go_ret
    refine ⟨rfl, ?_⟩
    rw [unhide HM]
    have := unhide HO
    rw [← unhide HY] at this
    exact chg_from (unhide YB) this
  · rw [if_neg h1] at hE hM
    have h1b : (v.kind == 1) = false := by simp [h1]
    by_cases h2 : v.kind = 2
    · rw [if_pos h2] at hE hM
      have h2b : (v.kind == 2) = true := by simp [h2]
      have dO := hide (close_any hct.ch hct.good hct.inh v.nam hv.nam)
      rw [hY, ← hE] at dO
      have HM := hide hM; have HY := hide hY; have HCT := hide hct
      clear hM hE hY yb yA hct h h1 h2
      go_enter Tryd.func10, Tryd.ntmps10
      go_wp2_with (go_at_call 16; refine (unhide dO).mono ?_; rintro e X ⟨rfl, ho⟩; have HO := hide ho; clear ho)
      go_ret
      refine ⟨rfl, ?_⟩
      rw [unhide HM]
      have := unhide HO
      rw [← unhide HY] at this
      exact chg_from (unhide YB) (chg_close (unhide HCT) this)
    · rw [if_neg h2] at hE hM
      have h2b : (v.kind == 2) = false := by simp [h2]
      by_cases h3 : v.kind = 3
      · rw [if_pos h3] at hE
        have h3b : (v.kind == 3) = true := by simp [h3]
        have dO := hide (may_any hct v.nam hv.nam v.day)
        rw [hY, ← hE] at dO
        have HM := hide hM; have HY := hide hY; have HCT := hide hct
        clear hM hE hY yb yA hct h h1 h2 h3
        go_enter Tryd.func10, Tryd.ntmps10
        go_wp2_with (go_at_call 21; refine (unhide dO).mono ?_; rintro e X ⟨rfl, ho⟩; have HO := hide ho; clear ho)
        go_ret
        refine ⟨rfl, ?_⟩
        rw [unhide HM]
        have := unhide HO
        rw [← unhide HY] at this
        exact chg_from (unhide YB) (Chg.below (unhide HCT) this)
      · rw [if_neg h3] at hE
        have h3b : (v.kind == 3) = false := by simp [h3]
        subst hE
        have HM := hide hM; have HY := hide hY; have HCT := hide h
        clear hM hY yb yA hct h h1 h2 h3
        go_enter Tryd.func10, Tryd.ntmps10
        go_wp2
        go_ret
        refine ⟨rfl, ?_⟩
        rw [unhide HM]
        have := unhide YB
        rw [unhide HY] at this
        exact Chg.below (unhide HCT) this
end Go.Proofs.YtgimeecklmmbjaaDoor
