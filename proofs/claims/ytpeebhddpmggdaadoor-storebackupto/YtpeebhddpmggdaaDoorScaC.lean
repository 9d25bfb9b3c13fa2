/- store: Scan (6). -/
import Derived.Test.YtpeebhddpmggdaaDoorScaB
import Derived.Maps.AppendAt
import Derived.Shelf.RegionOpen
namespace Go.Proofs.YtpeebhddpmggdaaDoor
open Go Go.RowKit Go.Shelf Go.ChangeShapes Go.WideShapes Go.ChangeAt
set_option linter.unusedVariables false
attribute [local go_sem] Oper.semAt_some
theorem info23 : (Tryd.prog.info? 23).map (fun i => (i.zero, i.size, i.bytes)) = some (some (.slice none 0 0), 1, 24) := by kernel_rfl
/-- a record as Scan hands it out -/
def Fr.rcd (x : Fr) : Value := if x.cap = 8 then .slice (some ⟨x.blk, 0, none⟩) (x.len - 8) 0 else .slice (some ⟨x.blk, 8, none⟩) (x.len - 8) (x.cap - 8)
theorem rec_one (x : Fr) : x.rcd.oneCell' = true := by unfold Fr.rcd; split <;> rfl
def endN (xs : List Fr) : Nat := xs.foldl (fun _ x => x.at' + x.len) 0
theorem endN_snoc (xs : List Fr) (x : Fr) : endN (xs ++ [x]) = x.at' + x.len := by simp [endN]
theorem Pre.end {f : Nat → Nat} {n : Nat} {xs : List Fr} {o : Nat} (h : Pre f n xs o) : endN xs = o := by
  cases h with
  | nil => rfl
  | snoc h h1 h2 h3 => rw [endN_snoc, h1]
theorem Pre.count {f : Nat → Nat} {n : Nat} {xs : List Fr} {o : Nat} (h : Pre f n xs o) : xs.length * 8 ≤ o := by
  induction h with
  | nil => simp
  | snoc h h1 h2 h3 ih => simp; omega
theorem iter_tells (f : Nat → Nat) (hf : ∀ k, f k < 256) (pa : Option Addr) (n cap : Nat) (hcap : n ≤ cap) (hn : n ≤ 9223372036854770000) (n0 Bn : Nat) (w : World) (hBn : w.cell? ⟨Bn, 0, none⟩ = some (.slice pa n cap)) (hL : BLies f (.slice pa n cap) n w) (hS : Stp w) (hbn : ∀ a, pa = some a → 0 < n → a.block < n0) (hn0 : n0 ≤ w.heap.size) (hg0 : 0 < n0) :
    Tells Fence.wide 2 Tryd.prog 10 #[.pointer (some ⟨Bn, 0, none⟩)] Fr.enc (Kp n0 Bn) (fun pre x W => x.Shown f n0 W ∧ Pre f n (pre ++ [x]) (x.at' + x.len)) (EndS f n n0) w := by
  intro l J W hb hJ hY h0
  have hlt : Bn < w.heap.size := World.block_lt_of_cell? w ⟨Bn, 0, none⟩ hBn
  have hBn' := (hb.cell (p := ⟨Bn, 0, none⟩) hlt).trans hBn
  have hL' := hL.below hb
  have hS' := hS.below hb
  rcases hL with ⟨h1, h2⟩ | ⟨b, off, cap', h1, _, _⟩
  · simp only [Value.slice.injEq] at h2
    obtain ⟨rfl, rfl, rfl⟩ := h2
    exact iter_none f n0 Bn l J W hBn' hJ h0
  · simp only [Value.slice.injEq, true_and] at h1
    obtain ⟨rfl, rfl⟩ := h1
    exact iter_some f hf b off n cap hcap hn n0 Bn l J W hBn' hL' hS' (fun h => hbn _ rfl h) (Nat.le_trans hn0 hb.size) hg0 hJ hY h0
/-- an append as a step of a region that draws, inside a fence -/
theorem step_append_in {F : Fence} {nF : Nat} {P : Program} {ops : Array Oper} {o : Oper} {a : Act} {K : Act → World → Prop} {Q : Exit → Act → World → Prop} {E : Prop} (w : World) (hgd : o.guard = none) (s x : Operand) (t : TypeId)
    (ho : o.op = .call { callee := .builtin .append, args := #[s, x], argTypes := #[t, t] })
    (base : Nat) (e : TypeId) (i : TypeInfo) (z : Value) (size bytes : Nat) (ht : P.underlying t = some (.slice e)) (hi : P.info? e = some i) (hz : i.zero = some z)
    (hsize : i.size = size) (hby : i.bytes = bytes) (hzs : z.cells.size = size) (hsz : 0 < size)
    (v : Value) (n : Nat) (xs : List Value) (hs : a.eval s = v) (hown : w.ownsRow base e size v n xs)
    (ad : Addr) (m c : Nat) (news : List Value) (hx : a.eval x = .slice (some ad) m c) (hl : news.length = m * size) (hnews : ∀ j u, news[j]? = some u → w.cell? (ad.add j) = some u) (h1 : ∀ u ∈ news, u.oneCell' = true)
    (h63 : n + m ≤ maxLen) (hbytes : (n + m) * bytes ≤ 140737488355328) (hbase : base ≤ w.heap.size)
    (h : ∀ v' w', w'.ownsRow base e size v' (n + m) (xs ++ news) → w.grownBy w' v.ownBlock → K (a.put o.dst v') w') :
    if Region.wanted o (yielded ops a.tmps) = true then Oper.wpIn F nF P o a w K Q else E := by
  have hw : Region.wanted o (yielded ops a.tmps) = true := by simp [Region.wanted, hgd]
  rw [if_pos hw]
  obtain ⟨v', w', hr, h2, h3, h4, h5⟩ := run_append_own_at (P := P) w base t o.type e i z size bytes ht hi hz hsize hby hzs hsz v n xs hown ad m c news hl hnews h1 h63 hbytes hbase
  unfold Oper.wpIn
  refine ⟨by simp [Oper.about, ho, resolve, Target.leads, Sem.run_pure], ?_⟩
  rw [Oper.semAt_plain F _ _ (by rw [ho]; intro c hc'; cases hc')]
  simp [execOp, ho, resolve, invoke, builtin, hs, hx, hr, Result.andThen]
  exact h v' w' h2 h3
theorem row_own {W : World} {base e size k : Nat} {v : Value} {xs : List Value} (h : W.ownsRow base e size v k xs) {j : Nat} (hj : v.ownBlock = some j) : base ≤ j ∧ ∃ c z, W.heap[j]? = some (Obj.cells c e z) := by
  rcases h.2 with ⟨rfl, _⟩ | ⟨g, cap, cur, rfl, hb, hgb, _⟩
  · simp [Value.ownBlock] at hj
  · obtain rfl : g = j := by simpa [Value.ownBlock] using hj
    exact ⟨hb, _, _, hgb⟩
/-- what a round of Scan leaves -/
theorem body_end {n0 n1 : Nat} {W w2 : World} {v v' u E : Value} {k m : Nat} {xs ys : List Value} {tmp : Obj} (hn : n0 + 3 ≤ W.heap.size) (hv : Boxed W n0 22 v) (he : Boxed W (n0 + 1) 3 u)
    (hrow : W.ownsRow (n0 + 1 + 1 + 1) 23 1 v k xs) (hown' : w2.ownsRow (n0 + 1 + 1 + 1) 23 1 v' m ys) (hgrow : (W.drew.alloc tmp).grownBy w2 v.ownBlock) :
    (Boxed w2 n0 22 v ∧ Boxed w2 (n0 + 1) 3 u) ∧ KeepsFrom n1 W ((w2.setCell ⟨n0, 0, none⟩ v').setCell ⟨n0 + 1, 0, none⟩ E) ∧ Kp n0 (n0 + 1 + 1) W ((w2.setCell ⟨n0, 0, none⟩ v').setCell ⟨n0 + 1, 0, none⟩ E) ∧
      Boxed ((w2.setCell ⟨n0, 0, none⟩ v').setCell ⟨n0 + 1, 0, none⟩ E) n0 22 v' ∧ Boxed ((w2.setCell ⟨n0, 0, none⟩ v').setCell ⟨n0 + 1, 0, none⟩ E) (n0 + 1) 3 E ∧
      ((w2.setCell ⟨n0, 0, none⟩ v').setCell ⟨n0 + 1, 0, none⟩ E).ownsRow (n0 + 1 + 1 + 1) 23 1 v' m ys := by
  have hsame : ∀ j, j < W.heap.size → some j ≠ v.ownBlock → w2.heap[j]? = W.heap[j]? := fun j hj hne => (hgrow.block j (by simp; omega) hne).trans (Below.heap_alloc W.drew tmp j hj)
  have hno : ∀ j, j < n0 + 3 → some j ≠ v.ownBlock := fun j hj e => by
    have := (row_own hrow e.symm).1
    omega
  have hv2 : Boxed w2 n0 22 v := (hsame n0 (by omega) (hno _ (by omega))).trans hv
  have he2 : Boxed w2 (n0 + 1) 3 u := (hsame (n0 + 1) (by omega) (hno _ (by omega))).trans he
  have hset : ∀ j, j ≠ n0 → j ≠ n0 + 1 → ((w2.setCell ⟨n0, 0, none⟩ v').setCell ⟨n0 + 1, 0, none⟩ E).heap[j]? = w2.heap[j]? := fun j h1 h2 => (Below.heap_setCell _ ⟨n0 + 1, 0, none⟩ _ j h2).trans (Below.heap_setCell _ ⟨n0, 0, none⟩ _ j h1)
  have hb1 : Boxed (w2.setCell ⟨n0, 0, none⟩ v') n0 22 v' := hv2.set v'
  have he1 : Boxed (w2.setCell ⟨n0, 0, none⟩ v') (n0 + 1) 3 u := he2.other (by omega) v'
  have hz : W.heap.size ≤ ((w2.setCell ⟨n0, 0, none⟩ v').setCell ⟨n0 + 1, 0, none⟩ E).heap.size := by
    have h1 := hgrow.size
    have h2 := (KeepsWalks.setCell w2 ⟨n0, 0, none⟩ v').size
    have h3 := (KeepsWalks.setCell (w2.setCell ⟨n0, 0, none⟩ v') ⟨n0 + 1, 0, none⟩ E).size
    have h4 : (W.drew.alloc tmp).heap.size = W.heap.size + 1 := World.size_alloc W.drew tmp
    omega
  have hkeep : ∀ (j : Nat) (o : Obj), W.heap[j]? = some o → (∀ c z, o ≠ Obj.cells c 22 z) → (∀ c z, o ≠ Obj.cells c 3 z) → (∀ c z, o ≠ Obj.cells c 23 z) → ((w2.setCell ⟨n0, 0, none⟩ v').setCell ⟨n0 + 1, 0, none⟩ E).heap[j]? = some o := fun j o ho o1 o2 o3 => by
    have hj := (Array.getElem?_eq_some_iff.1 ho).1
    rw [hset j (fun e => ?_) (fun e => ?_), hsame j hj (fun e => ?_)]
    · exact ho
    · obtain ⟨_, c, z, hcz⟩ := row_own hrow e.symm
      rw [hcz] at ho
      exact o3 c z (Option.some.inj ho).symm
    · subst e
      rw [show W.heap[j]? = _ from hv] at ho
      exact o1 _ _ (Option.some.inj ho).symm
    · subst e
      rw [show W.heap[n0 + 1]? = _ from he] at ho
      exact o2 _ _ (Option.some.inj ho).symm
  refine ⟨⟨hv2, he2⟩, ⟨hz, fun j o _ ho hc => ?_⟩, ⟨⟨?_, ?_, ?_, hz, fun j hj => ?_⟩, ?_, fun q c z hq => ?_⟩, hb1.other (by omega) E, he1.set E, ?_⟩
  · exact hkeep j o ho (fun c z e => by rw [e] at hc; cases hc) (fun c z e => by rw [e] at hc; cases hc) (fun c z e => by rw [e] at hc; cases hc)
  · exact hgrow.os
  · exact hgrow.tape
  · exact hgrow.output
  · exact (hset j (by omega) (by omega)).trans (hsame j (by omega) (hno j (by omega)))
  · exact (hset _ (by omega) (by omega)).trans (hsame _ (by omega) (hno _ (by omega)))
  · refine hkeep q _ hq (fun c' z' e => ?_) (fun c' z' e => ?_) (fun c' z' e => ?_)
    all_goals (injection e with _ e2 _; exact absurd e2 (by decide))
  · have k1 : (w2.setCell ⟨n0, 0, none⟩ v').ownsRow (n0 + 1 + 1 + 1) 23 1 v' m ys := hown'.kept (grownBy_setCell' w2 n0 v') (.inr (fun e => by have := (row_own hown' e).1; omega))
    exact k1.kept (grownBy_setCell' _ (n0 + 1) E) (.inr (fun e => by have := (row_own hown' e).1; omega))
end Go.Proofs.YtpeebhddpmggdaaDoor
