/- typing, the document's: the table 80, and that both ways to a node's type agree. -/
import Derived.Test.YtfpbljfebjochaaGreatDoorRpA
import Derived.Test.YtfpbljfebjochaaGreatDoorTyT
import Derived.Test.YtfpbljfebjochaaGreatDoorPlA
namespace Go.Proofs.YtfpbljfebjochaaGreatDoor
open Go Go.Shelf Go.ChangeShapes Go.WideShapes Go.ChangeAt Go.RowKit Go.Maps
set_option linter.unusedVariables false
set_option linter.unusedSimpArgs false
set_option maxRecDepth 100000
set_option maxHeartbeats 4000000

/-- the document's table of operations -/
def tbL : List (Int × Int × Int × Int) := [(1, 4, 4, 4), (2, 4, 4, 4), (3, 4, 0, 4), (10, 2, 2, 4), (11, 2, 2, 4), (12, 1, 1, 1), (12, 5, 5, 5), (12, 3, 1, 3), (12, 1, 3, 3), (13, 1, 1, 1), (13, 5, 5, 5), (13, 3, 1, 3), (13, 3, 3, 1), (14, 1, 1, 1), (14, 5, 1, 5), (14, 1, 5, 5), (15, 1, 0, 1), (15, 5, 0, 5)]
def tbC : Array Value := #[.int .i64 1, .int .i64 4, .int .i64 4, .int .i64 4, .int .i64 2, .int .i64 4, .int .i64 4, .int .i64 4, .int .i64 3, .int .i64 4, .int .i64 0, .int .i64 4, .int .i64 10, .int .i64 2, .int .i64 2, .int .i64 4, .int .i64 11, .int .i64 2, .int .i64 2, .int .i64 4, .int .i64 12, .int .i64 1, .int .i64 1, .int .i64 1, .int .i64 12, .int .i64 5, .int .i64 5, .int .i64 5, .int .i64 12, .int .i64 3, .int .i64 1, .int .i64 3, .int .i64 12, .int .i64 1, .int .i64 3, .int .i64 3, .int .i64 13, .int .i64 1, .int .i64 1, .int .i64 1, .int .i64 13, .int .i64 5, .int .i64 5, .int .i64 5, .int .i64 13, .int .i64 3, .int .i64 1, .int .i64 3, .int .i64 13, .int .i64 3, .int .i64 3, .int .i64 1, .int .i64 14, .int .i64 1, .int .i64 1, .int .i64 1, .int .i64 14, .int .i64 5, .int .i64 1, .int .i64 5, .int .i64 14, .int .i64 1, .int .i64 5, .int .i64 5, .int .i64 15, .int .i64 1, .int .i64 0, .int .i64 1, .int .i64 15, .int .i64 5, .int .i64 0, .int .i64 5]
def tbO : Obj := .cells tbC 241
def tP (op a b : Int) (r : Int × Int × Int × Int) : Bool := r.1 == op && (r.2.1 == a && (r.2.2.1 == 0 || r.2.2.1 == b))
def tabS (op a b : Int) : Int := match tbL.find? (tP op a b) with | some r => r.2.2.2 | none => 0
def tb (k : Nat) : Int × Int × Int × Int := tbL.getD k (0, 0, 0, 0)
theorem tb_len : tbL.length = 18 := rfl
theorem tb_at {k : Nat} (hk : k < tbL.length) : tbL[k] = tb k := by unfold tb; rw [List.getD_eq_getElem?_getD, List.getElem?_eq_getElem hk]; rfl
theorem tab_hit {op a b : Int} {k : Nat} (hk : k < 18) (h : tP op a b (tb k) = true) (hb : ∀ j, j < k → tP op a b (tb j) = false) : tabS op a b = (tb k).2.2.2 := by
  have : tbL.find? (tP op a b) = some (tb k) := by
    rw [List.find?_eq_some_iff_getElem]
    exact ⟨h, k, by rw [tb_len]; exact hk, tb_at _, fun j hj => by rw [tb_at, hb j hj]; rfl⟩
  unfold tabS
  rw [this]
theorem tab_none {op a b : Int} (hb : ∀ j, j < 18 → tP op a b (tb j) = false) : tabS op a b = 0 := by
  have : tbL.find? (tP op a b) = none := by
    rw [List.find?_eq_none]
    intro x hx
    obtain ⟨j, hj, rfl⟩ := List.getElem_of_mem hx
    rw [tb_at, hb j (by rw [← tb_len]; exact hj)]
    decide
  unfold tabS
  rw [this]
theorem tab_ops {op a b : Int} (h : ∀ r ∈ tbL, r.1 ≠ op) : tabS op a b = 0 := by
  have : tbL.find? (tP op a b) = none := by
    rw [List.find?_eq_none]
    intro x hx
    unfold tP
    rw [beqF (h x hx)]
    simp
  unfold tabS
  rw [this]
theorem tb_ops : ∀ r ∈ tbL, 1 ≤ r.1 ∧ r.1 ≤ 15 := by decide
theorem tbC_at (k : Nat) (hk : k < 18) : tbC[k * 4 + 0]? = some (.int .i64 (tb k).1) ∧ tbC[k * 4 + 1]? = some (.int .i64 (tb k).2.1) ∧ tbC[k * 4 + 2]? = some (.int .i64 (tb k).2.2.1) ∧ tbC[k * 4 + 3]? = some (.int .i64 (tb k).2.2.2) := by
  have h : k = 0 ∨ k = 1 ∨ k = 2 ∨ k = 3 ∨ k = 4 ∨ k = 5 ∨ k = 6 ∨ k = 7 ∨ k = 8 ∨ k = 9 ∨ k = 10 ∨ k = 11 ∨ k = 12 ∨ k = 13 ∨ k = 14 ∨ k = 15 ∨ k = 16 ∨ k = 17 := by omega
  rcases h with rfl | rfl | rfl | rfl | rfl | rfl | rfl | rfl | rfl | rfl | rfl | rfl | rfl | rfl | rfl | rfl | rfl | rfl <;> exact ⟨rfl, rfl, rfl, rfl⟩
theorem tab3 (a b : Int) : tabS 3 a b = sgl 3 a := by
  by_cases h : a = 4
  · subst h; rfl
  · have h' := beqF h; have h'' := beqF (fun e => h e.symm : ¬ (4 : Int) = a); simp [tabS, tbL, tP, List.find?_cons, sgl, tif, h', h'']
theorem tab15 (a b : Int) : tabS 15 a b = sgl 15 a := by
  by_cases h : a = 1
  · subst h; rfl
  · by_cases g : a = 5
    · subst g; rfl
    · have h' := beqF h; have h'' := beqF (fun e => h e.symm : ¬ (1 : Int) = a); have g' := beqF g; have g'' := beqF (fun e => g e.symm : ¬ (5 : Int) = a); simp [tabS, tbL, tP, List.find?_cons, sgl, tif, h', h'', g', g'', h, g]
theorem tabEq {op a b t : Int} (hop : op = 1 ∨ op = 2 ∨ op = 10 ∨ op = 11) (ht : t = if op = 1 ∨ op = 2 then 4 else 2) : tabS op a b = tif (a == t && b == t) 4 := by
  rcases hop with rfl | rfl | rfl | rfl <;> simp at ht <;> subst ht <;> (
    first
    | (by_cases h : a = 4
       · subst h
         by_cases g : b = 4
         · subst g; rfl
         · have g' := beqF g; have g'' := beqF (fun e => g e.symm : ¬ (4 : Int) = b); simp [tabS, tbL, tP, List.find?_cons, tif, g', g'']
       · have h' := beqF h; have h'' := beqF (fun e => h e.symm : ¬ (4 : Int) = a); simp [tabS, tbL, tP, List.find?_cons, tif, h', h''])
    | (by_cases h : a = 2
       · subst h
         by_cases g : b = 2
         · subst g; rfl
         · have g' := beqF g; have g'' := beqF (fun e => g e.symm : ¬ (2 : Int) = b); simp [tabS, tbL, tP, List.find?_cons, tif, g', g'']
       · have h' := beqF h; have h'' := beqF (fun e => h e.symm : ¬ (2 : Int) = a); simp [tabS, tbL, tP, List.find?_cons, tif, h', h'']))
theorem tabR {op : Int} (hop : op = 12 ∨ op = 13 ∨ op = 14) (a b : Int) : tabS op a b = recS op a b := by
  have ha : a = 1 ∨ a = 3 ∨ a = 5 ∨ (¬ a = 1 ∧ ¬ a = 3 ∧ ¬ a = 5) := by omega
  have hb : b = 1 ∨ b = 3 ∨ b = 5 ∨ (¬ b = 1 ∧ ¬ b = 3 ∧ ¬ b = 5) := by omega
  rcases ha with rfl | rfl | rfl | ⟨a1, a3, a5⟩
  · rcases hb with rfl | rfl | rfl | ⟨b1, b3, b5⟩
    · rcases hop with rfl | rfl | rfl <;> decide
    · rcases hop with rfl | rfl | rfl <;> decide
    · rcases hop with rfl | rfl | rfl <;> decide
    · have c1 := beqF (fun e => b1 e.symm : ¬ (1 : Int) = b); have c3 := beqF (fun e => b3 e.symm : ¬ (3 : Int) = b); have c5 := beqF (fun e => b5 e.symm : ¬ (5 : Int) = b)
      rcases hop with rfl | rfl | rfl <;> simp [tabS, tbL, tP, List.find?_cons, recS, range11, rB, rc, recL, c1, c3, c5]
  · rcases hb with rfl | rfl | rfl | ⟨b1, b3, b5⟩
    · rcases hop with rfl | rfl | rfl <;> decide
    · rcases hop with rfl | rfl | rfl <;> decide
    · rcases hop with rfl | rfl | rfl <;> decide
    · have c1 := beqF (fun e => b1 e.symm : ¬ (1 : Int) = b); have c3 := beqF (fun e => b3 e.symm : ¬ (3 : Int) = b); have c5 := beqF (fun e => b5 e.symm : ¬ (5 : Int) = b)
      rcases hop with rfl | rfl | rfl <;> simp [tabS, tbL, tP, List.find?_cons, recS, range11, rB, rc, recL, c1, c3, c5]
  · rcases hb with rfl | rfl | rfl | ⟨b1, b3, b5⟩
    · rcases hop with rfl | rfl | rfl <;> decide
    · rcases hop with rfl | rfl | rfl <;> decide
    · rcases hop with rfl | rfl | rfl <;> decide
    · have c1 := beqF (fun e => b1 e.symm : ¬ (1 : Int) = b); have c3 := beqF (fun e => b3 e.symm : ¬ (3 : Int) = b); have c5 := beqF (fun e => b5 e.symm : ¬ (5 : Int) = b)
      rcases hop with rfl | rfl | rfl <;> simp [tabS, tbL, tP, List.find?_cons, recS, range11, rB, rc, recL, c1, c3, c5]
  · have c1 := beqF (fun e => a1 e.symm : ¬ (1 : Int) = a); have c3 := beqF (fun e => a3 e.symm : ¬ (3 : Int) = a); have c5 := beqF (fun e => a5 e.symm : ¬ (5 : Int) = a)
    rcases hop with rfl | rfl | rfl <;> simp [tabS, tbL, tP, List.find?_cons, recS, range11, rB, rc, recL, c1, c3, c5]
/-- the document's way to a node's type, and the program's -/
theorem pr_of {op a b : Int} (h : 1 ≤ op ∧ op ≤ 14 ∧ op ≠ 3) : prS op a b = if cmpS op a b then 4 else tabS op a b := by
  have hc : op = 1 ∨ op = 2 ∨ op = 4 ∨ op = 5 ∨ op = 6 ∨ op = 7 ∨ op = 8 ∨ op = 9 ∨ op = 10 ∨ op = 11 ∨ op = 12 ∨ op = 13 ∨ op = 14 := by omega
  have ht : ∀ o : Int, (o = 4 ∨ o = 5 ∨ o = 6 ∨ o = 7 ∨ o = 8 ∨ o = 9) → tabS o a b = 0 := fun o ho => tab_ops (by
    intro r hr
    have : ∀ r ∈ tbL, r.1 ≠ 4 ∧ r.1 ≠ 5 ∧ r.1 ≠ 6 ∧ r.1 ≠ 7 ∧ r.1 ≠ 8 ∧ r.1 ≠ 9 := by decide
    have := this r hr
    rcases ho with rfl | rfl | rfl | rfl | rfl | rfl
    · exact this.1
    · exact this.2.1
    · exact this.2.2.1
    · exact this.2.2.2.1
    · exact this.2.2.2.2.1
    · exact this.2.2.2.2.2)
  rcases hc with rfl | rfl | rfl | rfl | rfl | rfl | rfl | rfl | rfl | rfl | rfl | rfl | rfl
  · rw [tabEq (.inl rfl) rfl]; rfl
  · rw [tabEq (.inr (.inl rfl)) rfl]; rfl
  · rw [ht _ (.inl rfl)]; cases h1 : alike a b <;> simp [prS, cmpS, tif, h1]
  · rw [ht _ (.inr (.inl rfl))]; cases h1 : alike a b <;> simp [prS, cmpS, tif, h1]
  · rw [ht _ (.inr (.inr (.inl rfl)))]; cases h1 : alike a b <;> simp [prS, cmpS, tif, h1]
  · rw [ht _ (.inr (.inr (.inr (.inl rfl))))]; cases h1 : alike a b <;> simp [prS, cmpS, tif, h1]
  · rw [ht _ (.inr (.inr (.inr (.inr (.inl rfl)))))]; cases h1 : alike a b <;> simp [prS, cmpS, tif, h1]
  · rw [ht _ (.inr (.inr (.inr (.inr (.inr rfl)))))]; cases h1 : alike a b <;> simp [prS, cmpS, tif, h1]
  · rw [tabEq (.inr (.inr (.inl rfl))) rfl]; rfl
  · rw [tabEq (.inr (.inr (.inr rfl))) rfl]; rfl
  · rw [tabR (.inl rfl)]; rfl
  · rw [tabR (.inr (.inl rfl))]; rfl
  · rw [tabR (.inr (.inr rfl))]; rfl
theorem tat_out {T : List Int} {i : Int} (h : i < 0 ∨ (T.length : Int) ≤ i) : tat T i = 0 := by unfold tat; rw [if_pos h]
theorem nt_of (x : Nd) (T : List Int) : ntS x T = if leafS x ≠ 0 then leafS x else if x.left < 0 ∨ (T.length : Int) ≤ x.left then 0 else if cmpS x.op (tat T x.left) (tat T x.right) then 4 else tabS x.op (tat T x.left) (tat T x.right) := by
  have hcf : ∀ {o a b : Int}, o < 4 ∨ 9 < o → cmpS o a b = false := fun {o a b} ho => by unfold cmpS; rw [decide_eq_false (by omega)]; rfl
  have htf : ∀ {o a b : Int}, o < 1 ∨ 15 < o → tabS o a b = 0 := fun {o a b} ho => tab_ops (fun r hr => by have := tb_ops r hr; omega)
  by_cases hL : 16 ≤ x.op ∧ x.op ≤ 20
  · have e : ntS x T = leafS x := by
      unfold ntS narS leafS
      rcases (show x.op = 16 ∨ x.op = 17 ∨ x.op = 18 ∨ x.op = 19 ∨ x.op = 20 by omega) with h | h | h | h | h <;> rw [h] <;> rfl
    rw [e, hcf (by omega), htf (by omega)]
    by_cases h0 : leafS x = 0
    · simp [h0]
    · rw [if_pos h0]
  · have e : leafS x = 0 := by
      unfold leafS
      rw [if_neg (by omega), if_neg (by omega), if_neg (by omega), if_neg (by omega), if_neg (by omega)]
    rw [e, if_neg (by simp)]
    have n16 : ¬ x.op = 16 := by omega
    have n17 : ¬ x.op = 17 := by omega
    have n18 : ¬ x.op = 18 := by omega
    have n19 : ¬ x.op = 19 := by omega
    have n20 : ¬ x.op = 20 := by omega
    unfold ntS narS
    rw [if_neg n16, if_neg n17, if_neg n18, if_neg n19, if_neg n20]
    by_cases hs : x.op = 3 ∨ x.op = 15
    · rw [if_pos hs]
      show sgl x.op (tat T x.left) = _
      by_cases ho : x.left < 0 ∨ (T.length : Int) ≤ x.left
      · rw [if_pos ho, tat_out ho]
        rcases hs with h | h <;> rw [h] <;> rfl
      · rw [if_neg ho, hcf (by omega)]
        rcases hs with h | h <;> rw [h]
        · rw [tab3]; rfl
        · rw [tab15]; rfl
    · rw [if_neg hs]
      by_cases hp : 1 ≤ x.op ∧ x.op ≤ 14
      · rw [if_pos hp]
        show prS x.op (tat T x.left) (tat T x.right) = _
        by_cases ho : x.left < 0 ∨ (T.length : Int) ≤ x.left
        · rw [if_pos ho, tat_out ho]
          by_cases hz : prS x.op 0 (tat T x.right) = 0
          · exact hz
          · exact absurd rfl (pr_nz hz).1
        · rw [if_neg ho]
          exact pr_of ⟨hp.1, hp.2, fun h => hs (.inl h)⟩
      · rw [if_neg hp, hcf (by omega), htf (by omega)]
        show (0 : Int) = _
        split <;> rfl
theorem table_any (w : World) : Calls Tryz.prog 190 #[] w fun e w' => e = .returned (.slice (some ⟨w.heap.size, 0, none⟩) 18 18) ∧ w' = w.alloc tbO := by
  unfold tbO tbC
  go_enter Tryz.func190, Tryz.ntmps190
  go_wp2_with fail
  go_ret
  exact ⟨rfl, rfl⟩
theorem tb_cell (w : World) (i : Nat) : (w.alloc tbO).cell? ⟨w.heap.size, i, none⟩ = tbC[i]? := by
  unfold tbO
  simp
end Go.Proofs.YtfpbljfebjochaaGreatDoor
