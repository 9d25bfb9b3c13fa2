import Derived.Test.YtbenciieenbmeaaGreatDoorU32
/- AnswerOrder (3): its walk. -/
namespace Go.Proofs.YtbenciieenbmeaaGreatDoor
open Go Go.Shelf Go.ChangeShapes Go.WideShapes Go.ChangeAt Go.RowKit Go.Maps Go.Sort
set_option linter.unusedVariables false
set_option maxRecDepth 100000
set_option maxHeartbeats 8000000
/-- the tables that were laid -/
structure Glb (W : World) : Prop where
  fl : Flds W
  mon : Mon W
  rc : Recs W
  mx : Mx W
  six : 6 ≤ W.heap.size
theorem Glb.below {W W1 : World} (g : Glb W) (hb : Below W.heap.size W W1) : Glb W1 :=
  ⟨g.fl.below hb, g.mon.below hb, g.rc.below hb, g.mx.below hb (by have := g.six; omega), Nat.le_trans g.six hb.size⟩
/-- a table that was answered -/
def TabOut (W : World) (q : Qy) (R : List Ro) (e : Ending) (w' : World) : Prop :=
  ∃ px nx cx py ny cy T LL, e = .returned (.tuple #[.agg #[.slice px nx cx, .slice py ny cy], .int .i64 (scE q R)]) ∧ Below W.heap.size W w' ∧ TblOut W.heap.size w' (.agg #[.slice px nx cx, .slice py ny cy]) T LL ∧ ScT q R T LL
theorem ScanOut.tab {W : World} {q : Qy} {R : List Ro} {e : Ending} {w' : World} (h : ScanOut W q R e w') : TabOut W q R e w' := by
  obtain ⟨v, T, LL, e1, e2, e3⟩ := h.tbl
  obtain ⟨pT, cT, pR, cR, ts, ev, hr⟩ := e2
  exact ⟨pT, _, cT, pR, _, cR, T, LL, by rw [e1, ev], h.1, ⟨pT, cT, pR, cR, ts, rfl, hr⟩, e3⟩
theorem TblOut.below {B : Nat} {w w' : World} {v : Value} {T : List Int} {LL : List (List Cl)} (h : TblOut B w v T LL) (hb : Below w.heap.size w w') : TblOut B w' v T LL := by
  obtain ⟨pT, cT, pR, cR, ts, h1, ⟨h2, h3⟩, ⟨h4, h5⟩, h6, h7⟩ := h
  refine ⟨pT, cT, pR, cR, ts, h1, ⟨h2.below hb, h3⟩, ⟨h4.below hb, h5⟩, h6, fun i hi => ?_⟩
  obtain ⟨p, c, e1, e2, e3⟩ := h7 i hi
  exact ⟨p, c, e1, e2.below hb, e3⟩
def ld39 (x : Value) : Sem Value := Instr.loadAt 39 x
theorem ld39_is (x : Value) : Instr.loadAt 39 x = ld39 x := rfl
theorem sz39 : (Tryz.prog.info? 39).map (·.size) = some 9 := by kernel_rfl
theorem run_ld39 {w : World} {b o : Nat} {r : Ro} (h : w.rangeAt b o r.vals) : (ld39 (.pointer (some ⟨b, o, none⟩))).run Tryz.prog w = .ok (.agg r.arr) w :=
  run_loadAt_mid (P := Tryz.prog) w b o 39 r.vals _ h Tryz.underlying39 rfl sz39
section
attribute [local go_sem ↓] ld32_is ld34_is ld39_is
end
end Go.Proofs.YtbenciieenbmeaaGreatDoor
/- answer: counting rows (no program in it). -/
namespace Go.Proofs.YtbenciieenbmeaaGreatDoor
open Go Go.Shelf Go.ChangeShapes Go.WideShapes Go.ChangeAt Go.RowKit Go.Maps Go.Sort
set_option linter.unusedVariables false
set_option maxRecDepth 100000
set_option maxHeartbeats 4000000
/-- the query that counts the rows which a condition lets in -/
def cq (q : Qy) : Qy := ⟨q.nodes, q.wh, [], [(1, -1)], [], -1⟩
def a1 : Ag := ⟨1, 0, 1⟩
theorem cq_chk {q : Qy} (h : okQ (cq q) = true) : chkL (cq q) = [1] := by rw [(chk_ok h).2]; rfl
theorem cq_F (q : Qy) : scF (cq q) = [] := rfl
theorem cq_S {q : Qy} (h : okQ (cq q) = true) : scS (cq q) = [a1] := by
  unfold scS; rw [cq_chk h]; rfl
theorem cq_P {q : Qy} (h : okQ (cq q) = true) : scP (cq q) = [0] := by
  unfold scP; rw [cq_chk h]; rfl
theorem one_all {κ : Type} [DecidableEq κ] {x : κ} : ∀ {L : List κ}, L.Nodup → (∀ y ∈ L, y = x) → L = [] ∨ L = [x]
  | [], _, _ => .inl rfl
  | [y], _, h => .inr (by rw [h y (by simp)])
  | y :: z :: L, hn, h => by
    have h1 := h y (by simp); have h2 := h z (by simp)
    subst h1
    subst h2
    simp at hn
theorem ksF_none (q : Qy) (S : List Ag) (hS : endsB S = false) (R : List Ro) : ksF q [] S R = [noK] := by
  unfold ksF
  rw [if_pos ⟨rfl, hS⟩]
  have h1 : ksR q [] R = [] ∨ ksR q [] R = [noK] := by
    refine one_all (nodup_onD _) (fun y hy => ?_)
    unfold ksR at hy
    rw [mem_onD, List.mem_map] at hy
    obtain ⟨r, _, rfl⟩ := hy
    rfl
  rcases h1 with h1 | h1
  · rw [h1]; rfl
  · rw [h1]; rfl
theorem inK_none (q : Qy) (r : Ro) : inK q [] noK r = cntB q r := by
  unfold inK
  have e : keyK [] r = noK := rfl
  rw [e]; simp
theorem tal_cnt (q : Qy) (R : List Ro) : (talR q R a1).1 = (R.length : Int) := by
  unfold talR
  suffices h : ∀ (p : Int × Cl), (R.foldl (fun p r => (tkZ a1.kd p.1 (cAt (vlL q.nodes r) a1), tkE a1.kd p.2 (cAt (vlL q.nodes r) a1))) p).1 = p.1 + (R.length : Int) by simpa using h (0, .no)
  induction R with
  | nil => intro p; simp
  | cons r R ih =>
    intro p
    rw [List.foldl_cons, ih]
    have e : tkZ a1.kd p.1 (cAt (vlL q.nodes r) a1) = p.1 + 1 := by unfold tkZ cAt; simp [a1]
    rw [e, List.length_cons]
    omega
noncomputable def cntN (q : Qy) (R : List Ro) : Nat := (R.filter (cntB q)).length
theorem φ_cnt (q : Qy) (R : List Ro) : (φR q [] R noK a1).1 = (cntN q R : Int) := by
  unfold φR cntN
  rw [tal_cnt]
  congr 2
  exact List.filter_congr (fun r _ => inK_none q r)
theorem cntN_le (q : Qy) (R : List Ro) : cntN q R ≤ R.length := List.length_filter_le _ _
theorem tlC_cnt {z : Int} (e : Cl) (h : 0 ≤ z ∧ z < 4294967296) : tlC z e 1 1 = ⟨1, z, ⟨#[]⟩⟩ := by
  have hi : I64 z := ⟨by omega, by omega⟩
  have h2 : whB z = true := (whB_is (by unfold W128; omega)).2 hi
  unfold tlC
  rw [if_neg (by decide), h2, whN_is hi]
  unfold numC
  have h3 : amt z = true := by unfold amt; simp; omega
  rw [h3]; rfl
theorem cq_over {q : Qy} (h : okQ (cq q) = true) {R : List Ro} (hR : R.length < 4294967296) : overB (cq q) (scF (cq q)) (scS (cq q)) R = R.any (fun r => (whC q r).ty == 0) := by
  rw [cq_F, cq_S h]
  unfold overB
  have h1 : linesB (cq q) [] [a1] R = false := by
    unfold linesB
    rw [ksF_none _ _ rfl]
    simp only [List.any_cons, List.any_nil, Bool.or_false, lnB]
    rw [φ_cnt]
    have := cntN_le (cq q) R
    rw [show a1.kd = 1 from rfl, show a1.ty = 1 from rfl, tlC_cnt _ (by omega)]
    rfl
  rw [h1, Bool.or_false]
  unfold rowsB
  refine any_congr' (fun r _ => ?_)
  show (!(stE (cq q) [] [a1] r == 0)) = ((whC q r).ty == 0)
  unfold stE
  have hw : whC (cq q) r = whC q r := rfl
  rw [hw]
  by_cases h2 : (whC q r).ty = 0
  · rw [if_pos h2, h2]; rfl
  · rw [if_neg h2]
    have hb : badK [] r = false := rfl
    have ht : badT (vlL (cq q).nodes r) [a1] = false := rfl
    have h3 : ((whC q r).ty == 0) = false := by simpa using h2
    rw [hb, ht, h3]
    split <;> rfl
theorem cq_E {q : Qy} {R : List Ro} (hR : R.length < 4294967296) : scE (cq q) R = 0 ↔ okQ (cq q) = true ∧ ∀ r ∈ R, (whC q r).ty ≠ 0 := by
  constructor
  · intro h
    obtain ⟨h1, h2⟩ := scE_zero h
    refine ⟨h1, fun r hr e => ?_⟩
    rw [cq_over h1 hR, List.any_eq_false] at h2
    exact h2 r hr (by simpa using e)
  · rintro ⟨h1, h2⟩
    unfold scE
    rw [if_pos h1, cq_over h1 hR]
    have : R.any (fun r => (whC q r).ty == 0) = false := by
      rw [List.any_eq_false]; intro r hr e; exact h2 r hr (by simpa using e)
    rw [this]; rfl
theorem cq_T {q : Qy} {R : List Ro} (hR : R.length < 4294967296) (hE : scE (cq q) R = 0) {T : List Int} {LL : List (List Cl)} (h : ScT (cq q) R T LL) : T = [1] ∧ LL = [[⟨1, (cntN q R : Int), ⟨#[]⟩⟩]] := by
  obtain ⟨h1, _⟩ := scE_zero hE
  rcases h with ⟨_, e1, M, hM, e2⟩ | ⟨h0, _⟩
  · refine ⟨by rw [e1, cq_chk h1], ?_⟩
    have hp := hM.1
    rw [cq_F, cq_S h1] at hp
    have hl : linesL (cq q) [] [a1] R = [[⟨1, (cntN q R : Int), ⟨#[]⟩⟩]] := by
      unfold linesL
      rw [ksF_none _ _ rfl]
      simp only [List.map_cons, List.map_nil, lnC, List.length_nil, List.take_zero, List.nil_append]
      rw [φ_cnt]
      have := cntN_le (cq q) R
      rw [show a1.kd = 1 from rfl, show a1.ty = 1 from rfl, tlC_cnt _ (by omega)]
      rfl
    rw [hl] at hp
    have eM := List.perm_singleton.1 hp
    rw [e2, eM, cq_P h1]
    rfl
  · exact absurd hE h0
end Go.Proofs.YtbenciieenbmeaaGreatDoor
