import Derived.Test.YtmgnlgobkkfjhaaGreatDoorW03
import Derived.Deep.RegionHeldLaw
import GoSem.Claim
/- Regions that draw: S holds till number n has come up, or all along; their steps in short. -/
namespace Go.Proofs.YtmgnlgobkkfjhaaGreatDoor.Kg
open Go Go.Shelf Go.ChangeShapes Go.WideShapes Go.ChangeAt Go.RowKit Go.Maps
set_option linter.unusedVariables false
section
variable {P : Program} {ops : Array Oper} {Q : Exit → Act → World → Prop} {md : Region.Mode} {S : World → Prop} {n : Nat}
/-- whatever order is picked from here on; till number n has come up, S holds behind each operation -/
def wpAnyL (P : Program) (md : Region.Mode) (ops : Array Oper) (Q : Exit → Act → World → Prop) (S : World → Prop) (n : Nat) : Nat → Array Bool → Act → World → Prop
  | 0, listed, a, w => Region.ready md ops listed = [] ∧ Q .normal a w
  | fuel + 1, listed, a, w =>
    (Region.ready md ops listed = [] → Q .normal a w) ∧
    ∀ i ∈ Region.ready md ops listed, wpOp P ops Q i (fun a' w' => ((listed.setIfInBounds i true).getD n false = false → S w') ∧ wpAnyL P md ops Q S n fuel (listed.setIfInBounds i true) a' w') a w
theorem any_of_last : ∀ (fuel : Nat) (listed : Array Bool) (a : Act) (w : World), wpAnyL P md ops Q S n fuel listed a w → wpAny P md ops Q fuel listed a w
  | 0, _, _, _, h => h
  | fuel + 1, _, _, _, h => ⟨h.1, fun i hi => wpOp_mono (fun a' w' h' => any_of_last fuel _ a' w' h'.2) (h.2 i hi)⟩
/-- number n waits for number i -/
def waitsFor (md : Region.Mode) (ops : Array Oper) (n i : Nat) : Bool := ((ops[n]?).map (·.after.any fun e => Region.binds md e && e.on == i)).getD false
theorem not_ready {listed : Array Bool} {i : Nat} (hw : waitsFor md ops n i = true) (hu : listed.getD i true = false) : n ∉ Region.ready md ops listed := fun hr => by
  obtain ⟨_, o, ho, hall⟩ := mem_ready.1 hr
  unfold waitsFor at hw
  rw [ho] at hw
  simp only [Option.map_some, Option.getD_some] at hw
  rw [Array.any_eq_true] at hw
  obtain ⟨k, hk, hb⟩ := hw
  rw [Bool.and_eq_true, beq_iff_eq] at hb
  have h1 := hall _ (Array.getElem_mem hk) hb.1
  rw [hb.2] at h1
  rcases Nat.lt_or_ge i listed.size with h | h
  · simp [h] at hu h1
    rw [hu] at h1
    cases h1
  · simp [h] at h1
theorem wpAnyL_first {i : Nat} {oi : Oper} {v : Value} {S1 : World → Prop} (hi : ops[i]? = some oi) (hsel : ∀ (j : Nat) (o : Oper) cs b, ops[j]? = some o → o.op ≠ .select cs b)
    (hQ : ∀ c a w, Q (.panic c) (a.put oi.dst v) w → Q (.panic c) a w) (hS1 : ∀ W, S W → S1 W) (hin : i ≠ n) :
    ∀ (fuel : Nat) (listed : Array Bool) (a : Act) (w : World),
      (∀ j oj, ops[j]? = some oj → j ≠ i → listed.getD j true = false → (∀ e ∈ oj.after, Region.binds md e = true → e.on ≠ i) → oi.apart ops oj = true) →
      i ∈ Region.ready md ops listed → YieldsIf P ops S1 oi v a → (listed.getD n false = false → S w) → ((∀ W, S1 W) ∨ (waitsFor md ops n i = true ∧ listed.getD n false = false)) →
      wpAnyL P md ops Q S n fuel (listed.setIfInBounds i true) (a.put oi.dst v) w → wpAnyL P md ops Q S n (fuel + 1) listed a w := by
  intro fuel
  have hat : ∀ {listed : Array Bool} {w : World}, (listed.getD n false = false → S w) → ((∀ W, S1 W) ∨ (waitsFor md ops n i = true ∧ listed.getD n false = false)) → S1 w := fun hS hn => hn.elim (fun h => h _) (fun h => hS1 _ (hS h.2))
  have hup : ∀ {listed : Array Bool} {w : World}, (listed.getD n false = false → S w) → ((listed.setIfInBounds i true).getD n false = false → S w) := fun {listed w} hS hn => hS (by rw [getD_set_ne false hin] at hn; exact hn)
  induction fuel with
  | zero =>
    intro listed a w _ hr hy hS hn H
    refine ⟨fun h => (by rw [h] at hr; cases hr), fun j hj => ?_⟩
    by_cases hji : j = i
    · subst hji; exact hy.wpOp hi (hat hS hn) ⟨hup hS, H⟩
    · have := ready_mono hj hji
      rw [H.1] at this
      cases this
  | succ fuel ih =>
    intro listed a w hfree hr hy hS hn H
    refine ⟨fun h => (by rw [h] at hr; cases hr), fun j hj => ?_⟩
    by_cases hji : j = i
    · subst hji; exact hy.wpOp hi (hat hS hn) ⟨hup hS, H⟩
    · have h1 := H.2 j (ready_mono hj hji)
      obtain ⟨hjun, oj, hoj, hall⟩ := mem_ready.1 hj
      have hiun := (mem_ready.1 hr).1
      have hnot : ∀ e ∈ oj.after, Region.binds md e = true → e.on ≠ i := fun e he hb heq => by
        have h1 := hall e he hb
        have h0 := (mem_ready.1 hr).1
        rw [heq] at h1
        rcases Nat.lt_or_ge i listed.size with h' | h'
        · simp [h'] at h0 h1; rw [h0] at h1; cases h1
        · simp [Array.getElem?_eq_none h'] at h1
      have h2 := wpOp_putIf hoj (hfree j oj hoj hji hjun hnot) (fun cs b => hsel i oi cs b hi) (fun cs b => hsel j oj cs b hoj) hQ hy h1
      have hfree' : ∀ k ok, ops[k]? = some ok → k ≠ i → (listed.setIfInBounds j true).getD k true = false →
          (∀ e ∈ ok.after, Region.binds md e = true → e.on ≠ i) → oi.apart ops ok = true := fun k ok hk hki hun hno => by
        refine hfree k ok hk hki ?_ hno
        by_cases hjk : j = k
        · subst hjk; exact hjun
        · rw [getD_set_ne true hjk] at hun; exact hun
      have hn' : (∀ W, S1 W) ∨ (waitsFor md ops n i = true ∧ (listed.setIfInBounds j true).getD n false = false) := hn.imp id (fun h => ⟨h.1, by
        have hjn : j ≠ n := fun e => not_ready h.1 hiun (by rw [← e]; exact hj)
        rw [getD_set_ne false hjn]
        exact h.2⟩)
      refine wpOp_mono (fun a' w' h3 => ?_) h2
      have hS' : (listed.setIfInBounds j true).getD n false = false → S w' := fun hh => h3.2.1 (by
        rw [Array.setIfInBounds_comm _ _ (Ne.symm hji), getD_set_ne false hin]
        exact hh)
      refine ⟨hS', ih (listed.setIfInBounds j true) a' w' hfree' (ready_mono hr (Ne.symm hji)) h3.1 hS' hn' ?_⟩
      rw [Array.setIfInBounds_comm _ _ hji]
      exact h3.2.2
theorem wpAnyL_take {i : Nat} {oi : Oper} {v : Value} {fuel : Nat} {listed : Array Bool} {a : Act} {w : World} (hi : ops[i]? = some oi)
    (hs : Region.noSelect ops = true) (hf : Region.free md ops listed i = true) (hr : (Region.ready md ops listed).contains i = true)
    (hQ : ∀ c a w, Q (.panic c) (a.put oi.dst v) w → Q (.panic c) a w) (hin : i ≠ n) (hw : waitsFor md ops n i = true) (hnl : listed.getD n false = false) (hy : YieldsIf P ops S oi v a) (hS : S w)
    (h : wpAnyL P md ops Q S n fuel (listed.setIfInBounds i true) (a.put oi.dst v) w) : wpAnyL P md ops Q S n (fuel + 1) listed a w :=
  wpAnyL_first hi (Region.noSelect_spec hs) hQ (fun _ h => h) hin fuel listed a w (Region.free_spec hi hf) (by simpa using hr) hy (fun _ => hS) (.inr ⟨hw, hnl⟩) h
theorem wpAnyL_takeW {i : Nat} {oi : Oper} {v : Value} {fuel : Nat} {listed : Array Bool} {a : Act} {w : World} (hi : ops[i]? = some oi)
    (hs : Region.noSelect ops = true) (hf : Region.free md ops listed i = true) (hr : (Region.ready md ops listed).contains i = true)
    (hQ : ∀ c a w, Q (.panic c) (a.put oi.dst v) w → Q (.panic c) a w) (hin : i ≠ n) (hy : YieldsIf P ops (fun _ => True) oi v a) (hS : S w)
    (h : wpAnyL P md ops Q S n fuel (listed.setIfInBounds i true) (a.put oi.dst v) w) : wpAnyL P md ops Q S n (fuel + 1) listed a w :=
  wpAnyL_first hi (Region.noSelect_spec hs) hQ (fun _ _ => trivial) hin fuel listed a w (Region.free_spec hi hf) (by simpa using hr) hy (fun _ => hS) (.inl fun _ => trivial) h
/-- the one that comes up next: behind it S is to be shown anew -/
theorem wpAnyL_one {i : Nat} {o : Oper} {fuel : Nat} {listed : Array Bool} {a : Act} {w : World} (hr : Region.ready md ops listed = [i]) (ho : ops[i]? = some o)
    (h : ∀ K' : Act → World → Prop, Shut (∀ a w, S w → (S w → wpAnyL P md ops Q S n fuel (listed.setIfInBounds i true) a w) → K' a w) → if Region.wanted o (yielded ops a.tmps) = true then Oper.wp P o a w K' Q else K' (a.put o.dst undef) w) : wpAnyL P md ops Q S n (fuel + 1) listed a w := by
  refine ⟨fun h0 => (by rw [hr] at h0; cases h0), fun j hj => ?_⟩
  rw [hr, List.mem_singleton] at hj
  subst hj
  exact wpOp_step ho (fun K' hK => h K' (fun a w hS hW => hK a w ⟨fun _ => hS, hW hS⟩))
/-- the last one -/
theorem wpAnyL_end {i : Nat} {o : Oper} {fuel : Nat} {listed : Array Bool} {a : Act} {w : World} (hr : Region.ready md ops listed = [i]) (ho : ops[i]? = some o) (hd1 : Region.ready md ops (listed.setIfInBounds i true) = []) (hd2 : (listed.setIfInBounds i true).getD n false = true)
    (h : ∀ K' : Act → World → Prop, Shut (∀ a w, Q .normal a w → K' a w) → if Region.wanted o (yielded ops a.tmps) = true then Oper.wp P o a w K' Q else K' (a.put o.dst undef) w) : wpAnyL P md ops Q S n (fuel + 1) listed a w := by
  refine ⟨fun h0 => (by rw [hr] at h0; cases h0), fun j hj => ?_⟩
  rw [hr, List.mem_singleton] at hj
  subst hj
  refine wpOp_step ho (fun K' hK => h K' (fun a w hq => hK a w ⟨fun hf => (by rw [hd2] at hf; cases hf), ?_⟩))
  cases fuel with
  | zero => exact ⟨hd1, hq⟩
  | succ fuel => exact ⟨fun _ => hq, fun i hi => (by rw [hd1] at hi; cases hi)⟩
theorem wp_region_last {id : Nat} {a : Act} {w : World} (hm : P.follows .mixedOrders = true) (hS : S w.drew)
    (h : S w.drew → wpAnyL P .any ops Q S n ops.size (Array.replicate ops.size false) a w.drew) : (Code.region id ops true).wp P Q a w :=
  wp_region_any hm (any_of_last _ _ _ _ (h hS))
end
section
variable {P : Program} {ops : Array Oper} {Q : Exit → Act → World → Prop} {md : Region.Mode} {S : World → Prop} {n : Nat}
theorem wpAnyL_firstN {i : Nat} {oi : Oper} {v : Value} {S1 : World → Prop} (hi : ops[i]? = some oi) (hsel : ∀ (j : Nat) (o : Oper) cs b, ops[j]? = some o → o.op ≠ .select cs b)
    (hQ : ∀ c a w, Q (.panic c) (a.put oi.dst v) w → Q (.panic c) a w) (hS1 : ∀ W, S W → S1 W) (hin : i ≠ n) (hnn : ops.size ≤ n) :
    ∀ (fuel : Nat) (listed : Array Bool) (a : Act) (w : World),
      (∀ j oj, ops[j]? = some oj → j ≠ i → listed.getD j true = false → (∀ e ∈ oj.after, Region.binds md e = true → e.on ≠ i) → oi.apart ops oj = true) →
      i ∈ Region.ready md ops listed → YieldsIf P ops S1 oi v a → (listed.getD n false = false → S w) → (listed.getD n false = false) →
      wpAnyL P md ops Q S n fuel (listed.setIfInBounds i true) (a.put oi.dst v) w → wpAnyL P md ops Q S n (fuel + 1) listed a w := by
  intro fuel
  have hat : ∀ {listed : Array Bool} {w : World}, (listed.getD n false = false → S w) → (listed.getD n false = false) → S1 w := fun hS hn => hS1 _ (hS hn)
  have hup : ∀ {listed : Array Bool} {w : World}, (listed.getD n false = false → S w) → ((listed.setIfInBounds i true).getD n false = false → S w) := fun {listed w} hS hn => hS (by rw [getD_set_ne false hin] at hn; exact hn)
  induction fuel with
  | zero =>
    intro listed a w _ hr hy hS hn H
    refine ⟨fun h => (by rw [h] at hr; cases hr), fun j hj => ?_⟩
    by_cases hji : j = i
    · subst hji; exact hy.wpOp hi (hat hS hn) ⟨hup hS, H⟩
    · have := ready_mono hj hji
      rw [H.1] at this
      cases this
  | succ fuel ih =>
    intro listed a w hfree hr hy hS hn H
    refine ⟨fun h => (by rw [h] at hr; cases hr), fun j hj => ?_⟩
    by_cases hji : j = i
    · subst hji; exact hy.wpOp hi (hat hS hn) ⟨hup hS, H⟩
    · have h1 := H.2 j (ready_mono hj hji)
      obtain ⟨hjun, oj, hoj, hall⟩ := mem_ready.1 hj
      have hiun := (mem_ready.1 hr).1
      have hnot : ∀ e ∈ oj.after, Region.binds md e = true → e.on ≠ i := fun e he hb heq => by
        have h1 := hall e he hb
        have h0 := (mem_ready.1 hr).1
        rw [heq] at h1
        rcases Nat.lt_or_ge i listed.size with h' | h'
        · simp [h'] at h0 h1; rw [h0] at h1; cases h1
        · simp [Array.getElem?_eq_none h'] at h1
      have h2 := wpOp_putIf hoj (hfree j oj hoj hji hjun hnot) (fun cs b => hsel i oi cs b hi) (fun cs b => hsel j oj cs b hoj) hQ hy h1
      have hfree' : ∀ k ok, ops[k]? = some ok → k ≠ i → (listed.setIfInBounds j true).getD k true = false →
          (∀ e ∈ ok.after, Region.binds md e = true → e.on ≠ i) → oi.apart ops ok = true := fun k ok hk hki hun hno => by
        refine hfree k ok hk hki ?_ hno
        by_cases hjk : j = k
        · subst hjk; exact hjun
        · rw [getD_set_ne true hjk] at hun; exact hun
      have hn' : (listed.setIfInBounds j true).getD n false = false := by
        have hjn : j ≠ n := fun e => by
          have h9 := (List.getElem?_eq_some_iff (l := ops.toList) (i := j) (a := oj)).1 (by simpa using hoj)
          obtain ⟨h9, _⟩ := h9
          have : j < ops.size := by simpa using h9
          omega
        rw [getD_set_ne false hjn]
        exact hn
      refine wpOp_mono (fun a' w' h3 => ?_) h2
      have hS' : (listed.setIfInBounds j true).getD n false = false → S w' := fun hh => h3.2.1 (by
        rw [Array.setIfInBounds_comm _ _ (Ne.symm hji), getD_set_ne false hin]
        exact hh)
      refine ⟨hS', ih (listed.setIfInBounds j true) a' w' hfree' (ready_mono hr (Ne.symm hji)) h3.1 hS' hn' ?_⟩
      rw [Array.setIfInBounds_comm _ _ hji]
      exact h3.2.2
theorem wpAnyL_takeN {i : Nat} {oi : Oper} {v : Value} {fuel : Nat} {listed : Array Bool} {a : Act} {w : World} (hi : ops[i]? = some oi)
    (hs : Region.noSelect ops = true) (hf : Region.free md ops listed i = true) (hr : (Region.ready md ops listed).contains i = true)
    (hQ : ∀ c a w, Q (.panic c) (a.put oi.dst v) w → Q (.panic c) a w) (hin : i ≠ n) (hnn : ops.size ≤ n) (hnl : listed.getD n false = false) (hy : YieldsIf P ops S oi v a) (hS : S w)
    (h : wpAnyL P md ops Q S n fuel (listed.setIfInBounds i true) (a.put oi.dst v) w) : wpAnyL P md ops Q S n (fuel + 1) listed a w :=
  wpAnyL_firstN hi (Region.noSelect_spec hs) hQ (fun _ h => h) hin hnn fuel listed a w (Region.free_spec hi hf) (by simpa using hr) hy (fun _ => hS) hnl h
theorem wpAnyL_done {fuel : Nat} {listed : Array Bool} {a : Act} {w : World} (hr : Region.ready md ops listed = []) (h : Q .normal a w) : wpAnyL P md ops Q S n fuel listed a w := by
  cases fuel with
  | zero => exact ⟨hr, h⟩
  | succ fuel => exact ⟨fun _ => h, fun i hi => (by rw [hr] at hi; cases hi)⟩
end
section
variable {P : Program} {ops : Array Oper} {Q : Exit → Act → World → Prop} {md : Region.Mode} {S : World → Prop} {n : Nat}
def tkB (md : Region.Mode) (ops : Array Oper) (listed : Array Bool) (n i : Nat) : Bool := Region.noSelect ops && Region.free md ops listed i && (Region.ready md ops listed).contains i && decide (i ≠ n)
theorem tkB_spec {md : Region.Mode} {ops : Array Oper} {listed : Array Bool} {n i : Nat} (h : tkB md ops listed n i = true) : Region.noSelect ops = true ∧ Region.free md ops listed i = true ∧ (Region.ready md ops listed).contains i = true ∧ i ≠ n := by
  simp only [tkB, Bool.and_eq_true, decide_eq_true_eq] at h
  exact ⟨h.1.1.1, h.1.1.2, h.1.2, h.2⟩
theorem tkW (i : Nat) {oi : Oper} {v : Value} {fuel : Nat} {listed : Array Bool} {a a' : Act} {w : World}
    (h : wpAnyL P md ops Q S n fuel (listed.setIfInBounds i true) a' w) (hi : ops[i]? = some oi := by rfl) (hb : tkB md ops listed n i = true := by kernel_rfl)
    (hQ : ∀ c a w, Q (.panic c) (a.put oi.dst v) w → Q (.panic c) a w := by exact fun _ _ _ h => h)
    (hy : YieldsIf P ops (fun _ => True) oi v a := by (refine Or.inl ⟨by rfl, ?_⟩; intro W _; go_simp; try with_reducible rfl))
    (ha : a.put oi.dst v = a' := by (simp only [Act.put, List.setIfInBounds_toArray, List.set_cons_zero, List.set_cons_succ, List.getElem_toArray, List.getElem_cons_zero, List.getElem_cons_succ]; rfl))
    (hS : S w := by assumption) : wpAnyL P md ops Q S n (fuel + 1) listed a w := by
  obtain ⟨h1, h2, h3, h4⟩ := tkB_spec hb
  subst ha
  exact wpAnyL_takeW hi h1 h2 h3 hQ h4 hy hS h
theorem tkN (i : Nat) {oi : Oper} {v : Value} {fuel : Nat} {listed : Array Bool} {a a' : Act} {w : World}
    (h : wpAnyL P md ops Q S n fuel (listed.setIfInBounds i true) a' w) (hi : ops[i]? = some oi := by rfl) (hb : tkB md ops listed n i = true := by kernel_rfl)
    (hQ : ∀ c a w, Q (.panic c) (a.put oi.dst v) w → Q (.panic c) a w := by exact fun _ _ _ h => h) (hnn : ops.size ≤ n := by simp) (hnl : listed.getD n false = false := by kernel_rfl)
    (hy : YieldsIf P ops S oi v a := by (refine Or.inl ⟨by rfl, ?_⟩; intro W hSW; (try dsimp only at hSW); go_simp; try with_reducible rfl))
    (ha : a.put oi.dst v = a' := by (simp only [Act.put, List.setIfInBounds_toArray, List.set_cons_zero, List.set_cons_succ, List.getElem_toArray, List.getElem_cons_zero, List.getElem_cons_succ]; rfl))
    (hS : S w := by assumption) : wpAnyL P md ops Q S n (fuel + 1) listed a w := by
  obtain ⟨h1, h2, h3, h4⟩ := tkB_spec hb
  subst ha
  exact wpAnyL_takeN hi h1 h2 h3 hQ h4 hnn hnl hy hS h
theorem tkS (i : Nat) {oi : Oper} {v : Value} {fuel : Nat} {listed : Array Bool} {a a' : Act} {w : World}
    (h : wpAnyL P md ops Q S n fuel (listed.setIfInBounds i true) a' w) (hi : ops[i]? = some oi := by rfl) (hb : tkB md ops listed n i = true := by kernel_rfl)
    (hQ : ∀ c a w, Q (.panic c) (a.put oi.dst v) w → Q (.panic c) a w := by exact fun _ _ _ h => h) (hw : waitsFor md ops n i = true := by kernel_rfl) (hnl : listed.getD n false = false := by kernel_rfl)
    (hy : YieldsIf P ops S oi v a := by (refine Or.inl ⟨by rfl, ?_⟩; intro W hSW; (try dsimp only at hSW); go_simp; try with_reducible rfl))
    (ha : a.put oi.dst v = a' := by (simp only [Act.put, List.setIfInBounds_toArray, List.set_cons_zero, List.set_cons_succ, List.getElem_toArray, List.getElem_cons_zero, List.getElem_cons_succ]; rfl))
    (hS : S w := by assumption) : wpAnyL P md ops Q S n (fuel + 1) listed a w := by
  obtain ⟨h1, h2, h3, h4⟩ := tkB_spec hb
  subst ha
  exact wpAnyL_take hi h1 h2 h3 hQ h4 hw hnl hy hS h
theorem tkX (i : Nat) {oi : Oper} {fuel : Nat} {listed : Array Bool} {a a' : Act} {w : World}
    (h : wpAnyL P md ops Q S n fuel (listed.setIfInBounds i true) a' w) (hi : ops[i]? = some oi := by rfl) (hb : tkB md ops listed n i = true := by kernel_rfl)
    (hQ : ∀ c a w, Q (.panic c) (a.put oi.dst undef) w → Q (.panic c) a w := by exact fun _ _ _ h => h)
    (hy : YieldsIf P ops (fun _ => True) oi undef a := by exact Or.inr ⟨by rfl, rfl⟩)
    (ha : a.put oi.dst undef = a' := by (simp only [Act.put, List.setIfInBounds_toArray, List.set_cons_zero, List.set_cons_succ, List.getElem_toArray, List.getElem_cons_zero, List.getElem_cons_succ]; rfl))
    (hS : S w := by assumption) : wpAnyL P md ops Q S n (fuel + 1) listed a w := by
  obtain ⟨h1, h2, h3, h4⟩ := tkB_spec hb
  subst ha
  exact wpAnyL_takeW hi h1 h2 h3 hQ h4 hy hS h
end
section
variable {P : Program} {ops : Array Oper} {Q : Exit → Act → World → Prop} {md : Region.Mode} {S : World → Prop} {n : Nat}
/-- number n, or one behind it: S is not asked any more -/
theorem wpAnyL_past {i : Nat} {o : Oper} {fuel : Nat} {listed : Array Bool} {a : Act} {w : World} (hr : Region.ready md ops listed = [i]) (ho : ops[i]? = some o) (hd : (listed.setIfInBounds i true).getD n false = true)
    (h : ∀ K' : Act → World → Prop, Shut (∀ a w, wpAnyL P md ops Q S n fuel (listed.setIfInBounds i true) a w → K' a w) → if Region.wanted o (yielded ops a.tmps) = true then Oper.wp P o a w K' Q else K' (a.put o.dst undef) w) : wpAnyL P md ops Q S n (fuel + 1) listed a w := by
  refine ⟨fun h0 => (by rw [hr] at h0; cases h0), fun j hj => ?_⟩
  rw [hr, List.mem_singleton] at hj
  subst hj
  exact wpOp_step ho (fun K' hK => h K' (fun a w hW => hK a w ⟨fun hf => (by rw [hd] at hf; cases hf), hW⟩))
end
end Go.Proofs.YtmgnlgobkkfjhaaGreatDoor.Kg
/- The kind of elements that the laws of daily keep: days. -/
namespace Go.Proofs.YtmgnlgobkkfjhaaGreatDoor.Kg
open Go Go.Shelf Go.ChangeShapes Go.WideShapes Go.ChangeAt Go.RowKit Go.Maps
set_option linter.unusedVariables false
structure Dq where
  acc : ByteArray
  day : Int
  chg : Int
  bal : Int
def Dq.vals (x : Dq) : List Value := [.string x.acc, .int .i64 x.day, .int .i64 x.chg, .int .i64 x.bal]
def kQ : Kd Dq := ⟨Dq.vals, 4, 22, 38, 40⟩
theorem kQ_ok : KdOK kQ := kd_ok (fun _ => rfl) (by decide) (fun x u hu => by simp [kQ, Dq.vals] at hu; rcases hu with rfl | rfl | rfl | rfl <;> rfl) Tryz.underlying22 (z := .agg #[.string ⟨#[]⟩, .int .i64 0, .int .i64 0, .int .i64 0]) (by kernel_rfl) rfl (by decide)
def toQ (x : Dr) : Dq := ⟨x.1, x.2.1, x.2.2.1, x.2.2.2⟩
theorem flatQ (L : List Dr) : kQ.flat (L.map toQ) = kD.flat L := by
  unfold Kd.flat
  rw [List.flatMap_map]
  rfl
theorem cell_at {W : World} {b i : Nat} {xs : Array Value} {t : TypeId} {f : Nat × Nat} (h : W.heap[b]? = some (.cells xs t f)) : W.cell? ⟨b, i, none⟩ = xs[i]? := by simp [World.cell?, h]
theorem froz_at {W : World} {b i : Nat} {xs : Array Value} {t : TypeId} (h : W.heap[b]? = some (.cells xs t (0, 0))) : W.frozen? ⟨b, i, none⟩ = false := by simp [World.frozen?, h]
theorem heap_new (w : World) (o : Obj) : (w.alloc o).heap[w.heap.size]? = some o := by
  show (w.heap.push o)[w.heap.size]? = _
  simp
theorem step_append_run {P : Program} {ops : Array Oper} {o : Oper} {a : Act} {K : Act → World → Prop} {Q : Exit → Act → World → Prop} {E : Prop} (w : World) (hgd : o.guard = none) (s x : Operand) (t : TypeId)
    (ho : o.op = .call { callee := .builtin .append, args := #[s, x], argTypes := #[t, t] }) (v u v' : Value) (w' : World) (hs : a.eval s = v) (hx : a.eval x = u) (hr : (Builtin.append_ #[t, t] o.type #[v, u]).run P w = .ok v' w')
    (h : K (a.put o.dst v') w') : if Region.wanted o (yielded ops a.tmps) = true then Oper.wp P o a w K Q else E := by
  have hw : Region.wanted o (yielded ops a.tmps) = true := by simp [Region.wanted, hgd]
  rw [if_pos hw]
  unfold Oper.wp execOp
  simp only [ho, resolve, invoke, builtin, Sem.run_bind, Sem.run_pure, Result.andThen_ok, List.map_toArray, List.map_cons, List.map_nil, hs, hx, hr]
  exact h
end Go.Proofs.YtmgnlgobkkfjhaaGreatDoor.Kg
/- Plain numbers: words of 32 bits, lowest first. Nothing of the program. -/
namespace Go.Proofs.YtmgnlgobkkfjhaaGreatDoor.Mw

/-- the sum of the first k words -/
def sm (z : Nat → Int) : Nat → Int
  | 0 => 0
  | k + 1 => sm z k + z k * 4294967296 ^ k

def upd (z : Nat → Int) (k : Nat) (v : Int) : Nat → Int := fun i => if i = k then v else z i

/-- words from 0 to 2^32 - 1 -/
def digs (z : Nat → Int) : Prop := ∀ i, 0 ≤ z i ∧ z i < 4294967296

def dg (n : Nat) : Nat → Int := fun i => ((n / 4294967296 ^ i % 4294967296 : Nat) : Int)

theorem digs_dg (n : Nat) : digs (dg n) := by
  intro i
  unfold dg
  have : n / 4294967296 ^ i % 4294967296 < 4294967296 := Nat.mod_lt _ (by decide)
  omega

theorem digs_upd {z : Nat → Int} (h : digs z) (k : Nat) (v : Int) (h0 : 0 ≤ v) (h1 : v < 4294967296) : digs (upd z k v) := by
  intro i
  unfold upd
  split
  · exact ⟨h0, h1⟩
  · exact h i

theorem sm_upd_lt (z : Nat → Int) (k : Nat) (v : Int) : ∀ j, j ≤ k → sm (upd z k v) j = sm z j
  | 0, _ => rfl
  | j + 1, h => by
    have hj : j ≠ k := by omega
    simp only [sm, sm_upd_lt z k v j (by omega), upd, if_neg hj]

theorem sm_upd (z : Nat → Int) (k : Nat) (v : Int) : ∀ j, k < j → sm (upd z k v) j = sm z j + (v - z k) * 4294967296 ^ k
  | 0, h => by omega
  | j + 1, h => by
    by_cases e : j = k
    · subst e
      simp only [sm, sm_upd_lt z j v j (Nat.le_refl _), upd, if_true, Int.sub_mul]
      omega
    · have hj := sm_upd z k v j (by omega)
      simp only [sm, hj, upd, if_neg e]
      omega

theorem sm_dg (n : Nat) : ∀ k, sm (dg n) k = ((n % 4294967296 ^ k : Nat) : Int)
  | 0 => by simp [sm, Nat.mod_one]
  | k + 1 => by
    simp only [sm, sm_dg n k, dg]
    rw [Nat.pow_succ, Nat.mod_mul]
    simp only [Int.natCast_add, Int.natCast_mul, Int.natCast_pow]
    rw [Int.mul_comm]
    simp

theorem sm_dg6 (n : Nat) (h : n < 4294967296 ^ 6) : sm (dg n) 6 = n := by
  rw [sm_dg, Nat.mod_eq_of_lt h]

theorem sm_nonneg {z : Nat → Int} (h : digs z) : ∀ k, 0 ≤ sm z k ∧ sm z k < 4294967296 ^ k
  | 0 => by simp [sm]
  | k + 1 => by
    obtain ⟨a, b⟩ := sm_nonneg h k
    obtain ⟨c, d⟩ := h k
    have hp : (0 : Int) < 4294967296 ^ k := Int.pow_pos (by decide)
    have h1 : 0 ≤ z k * 4294967296 ^ k := Int.mul_nonneg c (Int.le_of_lt hp)
    have h2 : (z k + 1) * 4294967296 ^ k ≤ 4294967296 * 4294967296 ^ k := Int.mul_le_mul_of_nonneg_right (by omega) (Int.le_of_lt hp)
    have h3 : (z k + 1) * 4294967296 ^ k = z k * 4294967296 ^ k + 4294967296 ^ k := by rw [Int.add_mul, Int.one_mul]
    have h4 : (4294967296 : Int) ^ (k + 1) = 4294967296 * 4294967296 ^ k := by rw [Int.pow_succ, Int.mul_comm]
    simp only [sm]
    rw [h4]
    omega

/-- six words with that sum are the number's -/
theorem dg_of_sm {z : Nat → Int} (h : digs z) (n : Nat) (hs : sm z 6 = n) : ∀ i, i < 6 → z i = dg n i := by
  have d0 := h 0; have d1 := h 1; have d2 := h 2; have d3 := h 3; have d4 := h 4; have d5 := h 5
  simp only [sm] at hs
  have e : (z 0 + 4294967296 * (z 1 + 4294967296 * (z 2 + 4294967296 * (z 3 + 4294967296 * (z 4 + 4294967296 * z 5))))) = (n : Int) := by
    simp only [show (4294967296 : Int) ^ 0 = 1 from rfl, show (4294967296 : Int) ^ 1 = 4294967296 from by decide, show (4294967296 : Int) ^ 2 = 18446744073709551616 from by decide, show (4294967296 : Int) ^ 3 = 79228162514264337593543950336 from by decide, show (4294967296 : Int) ^ 4 = 340282366920938463463374607431768211456 from by decide, show (4294967296 : Int) ^ 5 = 1461501637330902918203684832716283019655932542976 from by decide] at hs
    omega
  have q0 : n / 4294967296 ^ 0 = n := by simp
  have q1 : n / 4294967296 ^ 1 = n / 4294967296 := by simp
  have q2 : n / 4294967296 ^ 2 = n / 4294967296 / 4294967296 := by rw [Nat.div_div_eq_div_mul]
  have q3 : n / 4294967296 ^ 3 = n / 4294967296 / 4294967296 / 4294967296 := by rw [Nat.div_div_eq_div_mul, Nat.div_div_eq_div_mul]
  have q4 : n / 4294967296 ^ 4 = n / 4294967296 / 4294967296 / 4294967296 / 4294967296 := by rw [Nat.div_div_eq_div_mul, Nat.div_div_eq_div_mul, Nat.div_div_eq_div_mul]
  have q5 : n / 4294967296 ^ 5 = n / 4294967296 / 4294967296 / 4294967296 / 4294967296 / 4294967296 := by rw [Nat.div_div_eq_div_mul, Nat.div_div_eq_div_mul, Nat.div_div_eq_div_mul, Nat.div_div_eq_div_mul]
  have r1 : (z 1 + 4294967296 * (z 2 + 4294967296 * (z 3 + 4294967296 * (z 4 + 4294967296 * z 5)))) = ((n / 4294967296 : Nat) : Int) := by omega
  have r2 : (z 2 + 4294967296 * (z 3 + 4294967296 * (z 4 + 4294967296 * z 5))) = ((n / 4294967296 / 4294967296 : Nat) : Int) := by omega
  have r3 : (z 3 + 4294967296 * (z 4 + 4294967296 * z 5)) = ((n / 4294967296 / 4294967296 / 4294967296 : Nat) : Int) := by omega
  have r4 : (z 4 + 4294967296 * z 5) = ((n / 4294967296 / 4294967296 / 4294967296 / 4294967296 : Nat) : Int) := by omega
  have r5 : z 5 = ((n / 4294967296 / 4294967296 / 4294967296 / 4294967296 / 4294967296 : Nat) : Int) := by omega
  intro i hi
  have hi' : i = 0 ∨ i = 1 ∨ i = 2 ∨ i = 3 ∨ i = 4 ∨ i = 5 := by omega
  rcases hi' with rfl | rfl | rfl | rfl | rfl | rfl <;> simp only [dg, q0, q1, q2, q3, q4, q5] <;> omega

/-! ### Plus -/
def plusRel (x y z : Nat → Int) (k : Nat) (c : Int) : Prop := (∀ i, k ≤ i → z i = 0) ∧ sm z k + c * 4294967296 ^ k = sm x k + sm y k

theorem plusRel_zero (x y : Nat → Int) : plusRel x y (fun _ => 0) 0 0 := ⟨fun _ _ => rfl, by simp [sm]⟩

theorem plusRel_step {x y z : Nat → Int} {k : Nat} {c : Int} (h : plusRel x y z k c) (q r : Int) (hqr : q * 4294967296 + r = c + x k + y k) : plusRel x y (upd z k r) (k + 1) q := by
  obtain ⟨h0, h1⟩ := h
  refine ⟨fun i hi => ?_, ?_⟩
  · have : i ≠ k := by omega
    simp only [upd, if_neg this]
    exact h0 i (by omega)
  · have e1 : sm (upd z k r) (k + 1) = sm z k + r * 4294967296 ^ k := by
      simp only [sm, sm_upd_lt z k r k (Nat.le_refl _), upd, if_true]
    have e2 : (4294967296 : Int) ^ (k + 1) = 4294967296 * 4294967296 ^ k := by rw [Int.pow_succ, Int.mul_comm]
    rw [e1, e2]
    simp only [sm]
    generalize (4294967296 : Int) ^ k = p at *
    have e3 : q * (4294967296 * p) = (q * 4294967296) * p := by rw [Int.mul_assoc]
    have e4 : (q * 4294967296) * p = (c + x k + y k - r) * p := by rw [← hqr]; congr 1; omega
    rw [e3, e4]
    simp only [Int.sub_mul, Int.add_mul]
    omega

/-! ### Minus -/
def minusRel (x y z : Nat → Int) (k : Nat) (b : Int) : Prop := sm z k - b * 4294967296 ^ k = sm x k - sm y k

theorem minusRel_zero (x y : Nat → Int) : minusRel x y (fun _ => 0) 0 0 := by simp [minusRel, sm]

theorem minusRel_step {x y z : Nat → Int} {k : Nat} {b : Int} (h : minusRel x y z k b) (d q r : Int) (hqr : q * 4294967296 + r = d) (hd : d = x k + 4294967296 - y k - b) : minusRel x y (upd z k r) (k + 1) (1 - q) := by
  unfold minusRel at *
  have e1 : sm (upd z k r) (k + 1) = sm z k + r * 4294967296 ^ k := by
    simp only [sm, sm_upd_lt z k r k (Nat.le_refl _), upd, if_true]
  have e2 : (4294967296 : Int) ^ (k + 1) = 4294967296 * 4294967296 ^ k := by rw [Int.pow_succ, Int.mul_comm]
  rw [e1, e2]
  simp only [sm]
  generalize (4294967296 : Int) ^ k = p at *
  have e3 : (1 - q) * (4294967296 * p) = (4294967296 - q * 4294967296) * p := by rw [← Int.mul_assoc, Int.sub_mul, Int.one_mul]
  have e4 : (4294967296 - q * 4294967296) * p = (r + y k + b - x k) * p := by congr 1; omega
  rw [e3, e4]
  simp only [Int.sub_mul, Int.add_mul]
  omega

/-! ### Below -/
theorem below_high {x y : Nat → Int} (hx : digs x) (hy : digs y) (k : Nat) (hk : k < 6) (he : ∀ i, k < i → i < 6 → x i = y i) (hlt : x k < y k) : sm x 6 < sm y 6 := by
  have key : ∀ j, k + 1 + j ≤ 6 → sm x (k + 1 + j) < sm y (k + 1 + j)
    := by
    intro j
    induction j with
    | zero =>
      intro _
      have hxk := sm_nonneg hx k
      have hyk := sm_nonneg hy k
      simp only [sm]
      generalize (4294967296 : Int) ^ k = p at *
      have : (x k + 1) * p ≤ y k * p := Int.mul_le_mul_of_nonneg_right (by omega) (by omega)
      rw [Int.add_mul, Int.one_mul] at this
      omega
    | succ j ih =>
      intro hj
      have h1 := ih (by omega)
      have h2 := he (k + 1 + j) (by omega) (by omega)
      have : k + 1 + (j + 1) = (k + 1 + j) + 1 := by omega
      rw [this]
      simp only [sm, h2]
      omega
  have := key (5 - k) (by omega)
  have e : k + 1 + (5 - k) = 6 := by omega
  rwa [e] at this

theorem below_same {x y : Nat → Int} (he : ∀ i, i < 6 → x i = y i) : sm x 6 = sm y 6 := by
  have key : ∀ j, j ≤ 6 → sm x j = sm y j := by
    intro j
    induction j with
    | zero => intro _; rfl
    | succ j ih => intro hj; simp only [sm, ih (by omega), he j (by omega)]
  exact key 6 (Nat.le_refl _)

/-! ### Times -/
/-- the outer loop's: with i words of x taken -/
def outRel (x y z : Nat → Int) (i : Nat) : Prop := ∃ q, sm z 6 + q * 4294967296 ^ 6 = sm x i * sm y 6
/-- the inner loop's: and j words of y -/
def inRel (x y z : Nat → Int) (i j : Nat) (c : Int) : Prop := ∃ q, sm z 6 + c * 4294967296 ^ (i + j) + q * 4294967296 ^ 6 = sm x i * sm y 6 + x i * 4294967296 ^ i * sm y j

theorem outRel_zero (x y : Nat → Int) : outRel x y (fun _ => 0) 0 := ⟨0, by simp [sm]⟩

theorem inRel_of_out {x y z : Nat → Int} {i : Nat} (h : outRel x y z i) : inRel x y z i 0 0 := by
  obtain ⟨q, hq⟩ := h
  refine ⟨q, ?_⟩
  simp only [sm, Int.zero_mul, Int.mul_zero, Int.add_zero]
  simpa only [sm] using hq

theorem inRel_step {x y z : Nat → Int} {i j : Nat} {c : Int} (h : inRel x y z i j c) (hij : i + j < 6) (q r : Int) (hqr : q * 4294967296 + r = c + z (i + j) + x i * y j) : inRel x y (upd z (i + j) r) i (j + 1) q := by
  obtain ⟨Q, hQ⟩ := h
  refine ⟨Q, ?_⟩
  rw [sm_upd z (i + j) r 6 hij]
  have e2 : (4294967296 : Int) ^ (i + (j + 1)) = 4294967296 * 4294967296 ^ (i + j) := by rw [← Nat.add_assoc, Int.pow_succ, Int.mul_comm]
  have e5 : (4294967296 : Int) ^ (i + j) = 4294967296 ^ i * 4294967296 ^ j := Int.pow_add _ _ _
  have e6 : sm y (j + 1) = sm y j + y j * 4294967296 ^ j := rfl
  rw [e2, e6]
  have e7 : x i * 4294967296 ^ i * (sm y j + y j * 4294967296 ^ j) = x i * 4294967296 ^ i * sm y j + x i * y j * 4294967296 ^ (i + j) := by
    rw [e5, Int.mul_add]
    congr 1
    simp only [Int.mul_assoc, Int.mul_left_comm]
  rw [e7]
  generalize (4294967296 : Int) ^ (i + j) = p at *
  have e3 : q * (4294967296 * p) = (q * 4294967296) * p := by rw [Int.mul_assoc]
  have e4 : (q * 4294967296) * p = (c + z (i + j) + x i * y j - r) * p := by rw [← hqr]; congr 1; omega
  rw [e3, e4]
  simp only [Int.sub_mul, Int.add_mul]
  omega

theorem sm_high (y : Nat → Int) (j : Nat) : ∀ m, ∃ t, sm y (j + m) = sm y j + t * 4294967296 ^ j
  | 0 => ⟨0, by simp⟩
  | m + 1 => by
    obtain ⟨t, ht⟩ := sm_high y j m
    refine ⟨t + y (j + m) * 4294967296 ^ m, ?_⟩
    have : j + (m + 1) = (j + m) + 1 := by omega
    rw [this]
    simp only [sm, ht, Int.add_mul, Int.pow_add]
    rw [Int.mul_assoc, Int.mul_comm (4294967296 ^ j) (4294967296 ^ m)]
    omega

theorem outRel_of_in {x y z : Nat → Int} {i j : Nat} {c : Int} (h : inRel x y z i j c) (hij : i + j = 6) : outRel x y z (i + 1) := by
  obtain ⟨Q, hQ⟩ := h
  obtain ⟨t, ht⟩ := sm_high y j (6 - j)
  have e : j + (6 - j) = 6 := by omega
  rw [e] at ht
  rw [hij] at hQ
  refine ⟨c + Q + x i * t, ?_⟩
  have e1 : sm x (i + 1) * sm y 6 = sm x i * sm y 6 + x i * 4294967296 ^ i * sm y 6 := by simp only [sm, Int.add_mul]
  have e2 : x i * 4294967296 ^ i * sm y 6 = x i * 4294967296 ^ i * sm y j + x i * t * 4294967296 ^ 6 := by
    rw [ht, Int.mul_add, ← hij, Int.pow_add]
    congr 1
    simp only [Int.mul_assoc, Int.mul_left_comm]
  rw [e1, e2, Int.add_mul, Int.add_mul]
  omega

theorem times_of_out {x y z : Nat → Int} (hz : digs z) (h : outRel x y z 6) (m n : Nat) (hm : sm x 6 = m) (hn : sm y 6 = n) (hr : m * n < 4294967296 ^ 6) : sm z 6 = ((m * n : Nat) : Int) := by
  obtain ⟨Q, hQ⟩ := h
  rw [hm, hn] at hQ
  have hb := sm_nonneg hz 6
  have e6 : ((4294967296 ^ 6 : Nat) : Int) = 4294967296 ^ 6 := by rw [Int.natCast_pow]; rfl
  have hr' : ((m * n : Nat) : Int) < 4294967296 ^ 6 := by rw [← e6]; exact Int.ofNat_lt.2 hr
  rw [Int.natCast_mul] at hr' ⊢
  have h0 : (0 : Int) ≤ (m : Int) * n := by rw [← Int.natCast_mul]; exact Int.natCast_nonneg _
  generalize (m : Int) * n = M at *
  generalize (4294967296 : Int) ^ 6 = P at *
  have q0 : Q = 0 := by
    rcases Int.lt_trichotomy Q 0 with hq | hq | hq
    · have : (Q + 1) * P ≤ 0 * P := Int.mul_le_mul_of_nonneg_right (by omega) (by omega)
      rw [Int.add_mul, Int.one_mul, Int.zero_mul] at this
      omega
    · exact hq
    · have : 1 * P ≤ Q * P := Int.mul_le_mul_of_nonneg_right (by omega) (by omega)
      rw [Int.one_mul] at this
      omega
  subst q0
  omega
end Go.Proofs.YtmgnlgobkkfjhaaGreatDoor.Mw
