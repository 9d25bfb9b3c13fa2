/- daily: money.Sum (18) of numbers that lie somewhere; with (17). -/
import Derived.Test.YtenoaechonpjgaaDoorDlD
import Derived.Test.YtenoaechonpjgaaDoorMnyA
import Derived.Deep.Upon
namespace Go.Proofs.YtenoaechonpjgaaDoor
open Go Go.Shelf Go.ChangeShapes Go.WideShapes Go.ChangeAt Go.RowKit Go.Maps Go.Sort
set_option linter.unusedVariables false
/-- what Sum answers of amounts -/
def sumA (l : List Int) : Int × Int := if isA (sm id l) then (sm id l, 0) else (0, 11)
theorem sumZ_list (l : List Int) : ∀ k, k ≤ l.length → sumZ (fun i => l.getD i 0) k = sm id (l.take k)
  | 0, _ => rfl
  | k + 1, h => by
    have e : l.take (k + 1) = l.take k ++ [l[k]] := List.take_succ_eq_append_getElem (by omega)
    rw [e, sm_append]
    simp only [sumZ, sm]
    rw [sumZ_list l k (by omega)]
    have : l.getD k 0 = l[k] := by simp [List.getD, List.getElem?_eq_getElem (show k < l.length by omega)]
    rw [this]
    simp
theorem anyMin_list {l : List Int} (h : ∀ x ∈ l, isA x) : ∀ k, k ≤ l.length → anyMin (fun i => l.getD i 0) k = false
  | 0, _ => rfl
  | k + 1, hk => by
    simp only [anyMin, anyMin_list h k (by omega), Bool.false_or]
    have e : l.getD k 0 = l[k] := by simp [List.getD, List.getElem?_eq_getElem (show k < l.length by omega)]
    rw [e]
    have := h l[k] (List.getElem_mem _)
    rw [beq_eq_false_iff_ne]
    omega
theorem sumSpec_list {l : List Int} (h : ∀ x ∈ l, isA x) : sumSpec (fun i => l.getD i 0) l.length = sumA l := by
  unfold sumSpec sumA
  rw [anyMin_list h _ (Nat.le_refl _), sumZ_list l _ (Nat.le_refl _), List.take_length]
  simp only [Bool.false_eq_true, if_false]
  by_cases hc : -9223372036854775807 ≤ sm id l ∧ sm id l ≤ 9223372036854775807
  · rw [if_pos (show isA (sm id l) from hc), if_pos (by omega)]
  · rw [if_neg (show ¬ isA (sm id l) from hc), if_neg (by omega)]
theorem msum_lies {w : World} {p : Option Addr} {c n : Nat} {l : List Int} (hn : l.length = n) (h : Lies kI w p l) (hne : 0 < n) (hl : n ≤ 9223372036854775807) (hA : ∀ x ∈ l, isA x) :
    Calls Tryd.prog 18 #[.slice p n c] w fun e w' => e = .returned (.tuple #[.int .i64 (sumA l).1, .int .i64 (sumA l).2]) ∧ w' = w := by
  obtain ⟨b, off, e, _, _⟩ := h.2 0 (by omega)
  subst e
  rw [← sumSpec_list hA, hn]
  refine msum_any _ b off n c hl (fun k hk => ?_) w (fun k hk => ?_)
  · have e : l.getD k 0 = l[k] := by simp [List.getD, List.getElem?_eq_getElem (show k < l.length by omega)]
    rw [e]
    have := hA l[k] (List.getElem_mem _)
    omega
  · have e : l.getD k 0 = l[k] := by simp [List.getD, List.getElem?_eq_getElem (show k < l.length by omega)]
    obtain ⟨b', off', e', _, hr⟩ := h.2 k (by omega)
    cases e'
    have := hr 0 (.int .i64 l[k]) rfl
    rw [e]
    simpa [kI] using this
def s57 (x y : Value) : Sem Unit := Instr.storeAt 57 x y
theorem s57_is (x y : Value) : Instr.storeAt 57 x y = s57 x y := rfl
theorem size57 : (Tryd.prog.info? 57).map (·.size) = some 2 := by kernel_rfl
theorem run_s57 {W : World} {q : Nat} {a b : Value} (h : W.heap[q]? = some (.cells #[a, b] 57 (0, 0))) (x : Int) (p : Option Addr) (n c : Nat) : (s57 (.pointer (some ⟨q, 0, none⟩)) (.agg #[.int .i64 x, .slice p n c])).run Tryd.prog W = .ok () (W.setCells q 0 [.int .i64 x, .slice p n c]) :=
  run_storeAt_mid (P := Tryd.prog) W q 0 57 #[.int .i64 x, .slice p n c] (fun j hj => by
    have hj2 : j < 2 := by simpa using hj
    rcases j with _ | _ | j
    · simp [World.cell?, World.frozen?, h]
    · simp [World.cell?, World.frozen?, h]
    · omega) size57 (by simp [Value.oneCell'])
theorem tot_snd (G : Td) : sm id (G.map (·.2)) = tot G := sm_map _ _ _
theorem tot_append (V G : Td) : tot (V ++ G) = tot V + tot G := sm_append _ _ _
theorem Ser.tot_take {T : Td} {S : List Mk} (h : Ser T S) (hf : fitT T) : ∀ k, k ≤ S.length → tot (tld (S.take k)) = (if k = 0 then 0 else (S.getD (k - 1) (0, 0, 0)).2.2) ∧ isA (tot (tld (S.take k)))
  | 0, _ => ⟨rfl, by show isA 0; exact ⟨by decide, by decide⟩⟩
  | k + 1, hk => by
    have e : S.take (k + 1) = S.take k ++ [S[k]] := List.take_succ_eq_append_getElem (by omega)
    have ht := h.take (k + 1)
    rw [e] at ht
    have e1 : S.getD (k + 1 - 1) (0, 0, 0) = S[k] := by simp [List.getD, show k < S.length by omega]
    obtain ⟨_, _, h3⟩ := h.is S[k] (List.getElem_mem _)
    rw [e, ht.tot_last, if_neg (by omega), e1]
    refine ⟨rfl, ?_⟩
    rw [h3]
    exact (hf _).2
/-- what holds at each round of with's loop -/
structure Wi (P : List Mk) (A A2 : Td) (b : Int) (R : List Mk) : Prop where
  cut : ∃ A1, A = A1 ++ A2 ∧ Ser (tld P ++ A1) (P ++ R) ∧ fitT (tld P ++ A1) ∧ b = tot (tld P ++ A1) ∧ ∀ x ∈ tld P ++ A1, ∀ y ∈ A2, x.1 < y.1
  up : A2.Pairwise fun a b => a.1 ≤ b.1
  isa : isA b
theorem Wi.first {T : Td} {S : List Mk} {st : Nat} {M A : Td} (hS : Ser T S) (hf : fitT T) (hst : st ≤ S.length) (hp : A.Perm (M ++ tld (S.drop st))) (hu : A.Pairwise fun a b => a.1 ≤ b.1) (hlt : ∀ m ∈ S.take st, ∀ x ∈ M, m.1 < x.1) : Wi (S.take st) A A (if st = 0 then 0 else (S.getD (st - 1) (0, 0, 0)).2.2) [] where
  cut := by
    refine ⟨[], rfl, ?_, ?_, ?_, ?_⟩
    · rw [List.append_nil, List.append_nil]; exact hS.take st
    · rw [List.append_nil]; exact hS.take_fit hf st
    · rw [List.append_nil]; exact ((hS.tot_take hf st hst).1).symm
    · intro x hx y hy
      rw [List.append_nil] at hx
      obtain ⟨m, hm, rfl⟩ := List.mem_map.1 hx
      rcases List.mem_append.1 (hp.mem_iff.1 hy) with hy | hy
      · exact hlt m hm y hy
      · obtain ⟨m2, hm2, rfl⟩ := List.mem_map.1 hy
        have := hS.up
        rw [← List.take_append_drop st S, List.pairwise_append] at this
        exact this.2.2 m hm m2 hm2
  up := hu
  isa := by rw [← (hS.tot_take hf st hst).1]; exact (hS.tot_take hf st hst).2
theorem Wi.rest_lt {P : List Mk} {A A2 : Td} {b : Int} {R : List Mk} (h : Wi P A A2 b R) {k : Nat} {d : Int} (hk : 1 ≤ k) (hG : ∀ x ∈ A2.take k, x.1 = d) (hR : ∀ x, (A2.drop k).head? = some x → x.1 ≠ d) (hne : A2 ≠ []) : ∀ y ∈ A2.drop k, d < y.1 := fun y hy => by
  have hu := h.up
  rw [← List.take_append_drop k A2, List.pairwise_append] at hu
  have hd : ∃ x ∈ A2.take k, x.1 = d := by
    cases A2 with
    | nil => exact absurd rfl hne
    | cons a L =>
      refine ⟨a, ?_, hG a ?_⟩ <;> (cases k with | zero => omega | succ k => simp)
  obtain ⟨x, hx, hxd⟩ := hd
  cases hq : A2.drop k with
  | nil => rw [hq] at hy; cases hy
  | cons z L =>
    have hz := hR z (by rw [hq]; rfl)
    have h1 := hu.2.2 x hx z (by rw [hq]; exact List.mem_cons_self)
    have h2 := hu.2.1
    rw [hq, List.pairwise_cons] at h2
    rw [hq] at hy
    rcases List.mem_cons.1 hy with e | hy
    · subst e; omega
    · have := h2.1 y hy; omega
theorem Wi.step {P : List Mk} {A A2 : Td} {b : Int} {R : List Mk} (h : Wi P A A2 b R) {k : Nat} {d : Int} (hk : 1 ≤ k) (hG : ∀ x ∈ A2.take k, x.1 = d) (hR : ∀ x, (A2.drop k).head? = some x → x.1 ≠ d) (hne : A2 ≠ []) (h1 : isA (tot (A2.take k))) (h2 : isA (b + tot (A2.take k))) :
    Wi P A (A2.drop k) (b + tot (A2.take k)) (if tot (A2.take k) = 0 then R else R ++ [(d, tot (A2.take k), b + tot (A2.take k))]) where
  cut := by
    obtain ⟨A1, e, hs, hf, hb, hl⟩ := h.cut
    have hmem : ∀ x ∈ A2.take k, x ∈ A2 := fun x hx => List.mem_of_mem_take hx
    have hd : ∃ x ∈ A2, x.1 = d := by
      cases A2 with
      | nil => exact absurd rfl hne
      | cons a L =>
        refine ⟨a, List.mem_cons_self, hG a ?_⟩
        cases k with
        | zero => omega
        | succ k => simp
    have hV : ∀ r ∈ tld P ++ A1, r.1 < d := fun r hr => by
      obtain ⟨x, hx, hxd⟩ := hd
      rw [← hxd]
      exact hl r hr x hx
    refine ⟨A1 ++ A2.take k, ?_, ?_, ?_, ?_, ?_⟩
    · rw [List.append_assoc, List.take_append_drop]; exact e
    · rw [← List.append_assoc]
      have := step_ser hV hG hs
      rw [← hb] at this
      split
      · next hz => rw [if_pos hz] at this; exact this
      · next hz => rw [if_neg hz] at this; rw [← List.append_assoc P R]; exact this
    · rw [← List.append_assoc]
      exact step_fit hV hG hf h1 (by rw [← hb]; exact h2)
    · rw [← List.append_assoc, tot_append, hb]
    · intro x hx y hy
      have hdy := h.rest_lt hk hG hR hne y hy
      rw [← List.append_assoc] at hx
      rcases List.mem_append.1 hx with hx | hx
      · have := hV x hx; omega
      · rw [hG x hx]; exact hdy
  up := (h.up).sublist (List.drop_sublist _ _)
  isa := h2
theorem Wi.bad {P : List Mk} {A A2 : Td} {b : Int} {R : List Mk} (h : Wi P A A2 b R) {k : Nat} {d : Int} (hk : 1 ≤ k) (hG : ∀ x ∈ A2.take k, x.1 = d) (hR : ∀ x, (A2.drop k).head? = some x → x.1 ≠ d) (hne : A2 ≠ []) (hb : ¬ (isA (tot (A2.take k)) ∧ isA (b + tot (A2.take k)))) : ¬ fitT (tld P ++ A) := by
  obtain ⟨A1, e, hs, hf, hb1, hl⟩ := h.cut
  have hd : ∃ x ∈ A2, x.1 = d := by
    cases A2 with
    | nil => exact absurd rfl hne
    | cons a L =>
      refine ⟨a, List.mem_cons_self, hG a ?_⟩
      cases k with
      | zero => omega
      | succ k => simp
  have hV : ∀ r ∈ tld P ++ A1, r.1 < d := fun r hr => by
    obtain ⟨x, hx, hxd⟩ := hd
    rw [← hxd]
    exact hl r hr x hx
  have e2 : tld P ++ A = tld P ++ A1 ++ A2.take k ++ A2.drop k := by rw [List.append_assoc (tld P ++ A1), List.take_append_drop, List.append_assoc, e]
  rw [e2]
  exact step_bad hV hG (h.rest_lt hk hG hR hne) (by rw [← hb1]; exact hb)
end Go.Proofs.YtenoaechonpjgaaDoor
