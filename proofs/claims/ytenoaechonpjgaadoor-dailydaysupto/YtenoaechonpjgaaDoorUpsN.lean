/- Layer 8, no program in it: the names above one (upsK, ups, upsK_take as in the chart seat's PthN: a ported PthN leaves them out and imports this). -/
import Derived.Test.YtenoaechonpjgaaDoorSumN
namespace Go.Proofs.YtenoaechonpjgaaDoor
def upsK (l : List UInt8) : Nat → List (List UInt8)
  | 0 => []
  | i + 1 => if l[i]? = some 58 then l.take i :: upsK l i else upsK l i
def ups (l : List UInt8) : List (List UInt8) := upsK l l.length
theorem upsK_take (l : List UInt8) (j : Nat) : ∀ i, i ≤ j → upsK (l.take j) i = upsK l i
  | 0, _ => rfl
  | i + 1, h => by
    have e1 : (l.take j)[i]? = l[i]? := List.getElem?_take_of_lt (by omega)
    have e2 : (l.take j).take i = l.take i := by rw [List.take_take]; congr 1; omega
    rw [upsK, upsK, e1, e2, upsK_take l j i (by omega)]
theorem upsK_head {l : List UInt8} : ∀ {i p t}, upsK l i = p :: t → ∃ j, j < i ∧ l[j]? = some 58 ∧ (∀ k, j < k → k < i → l[k]? ≠ some 58) ∧ p = l.take j ∧ t = upsK l j
  | 0, p, t, h => by simp [upsK] at h
  | i + 1, p, t, h => by
    rw [upsK] at h
    by_cases e : l[i]? = some 58
    · rw [if_pos e] at h
      injection h with h1 h2
      exact ⟨i, by omega, e, fun k a b => by omega, h1.symm, h2.symm⟩
    · rw [if_neg e] at h
      obtain ⟨j, a, b, c, d, f⟩ := upsK_head h
      refine ⟨j, by omega, b, fun k hk hi => ?_, d, f⟩
      by_cases ek : k = i
      · subst ek; exact e
      · exact c k hk (by omega)
theorem mem_upsK {l q : List UInt8} : ∀ {i}, q ∈ upsK l i ↔ ∃ j, j < i ∧ l[j]? = some 58 ∧ q = l.take j
  | 0 => by simp [upsK]
  | i + 1 => by
    rw [upsK]
    by_cases e : l[i]? = some 58
    · rw [if_pos e, List.mem_cons, mem_upsK]
      refine ⟨fun h => h.elim (fun h => ⟨i, by omega, e, h⟩) (fun ⟨j, a, b⟩ => ⟨j, by omega, b⟩), fun ⟨j, a, b, c⟩ => ?_⟩
      by_cases ej : j = i
      · subst ej; exact .inl c
      · exact .inr ⟨j, by omega, b, c⟩
    · rw [if_neg e, mem_upsK]
      refine ⟨fun ⟨j, a, b⟩ => ⟨j, by omega, b⟩, fun ⟨j, a, b, c⟩ => ⟨j, ?_, b, c⟩⟩
      by_cases ej : j = i
      · subst ej; exact absurd b e
      · omega
theorem lt_of_colon {l : List UInt8} {j : Nat} (h : l[j]? = some 58) : j < l.length := (List.getElem?_eq_some_iff.1 h).1
theorem mem_ups {l q : List UInt8} : q ∈ ups l ↔ ∃ j, l[j]? = some 58 ∧ q = l.take j := by
  unfold ups
  rw [mem_upsK]
  exact ⟨fun ⟨j, _, b⟩ => ⟨j, b⟩, fun ⟨j, b⟩ => ⟨j, lt_of_colon b.1, b⟩⟩
theorem upsK_nodup (l : List UInt8) : ∀ i, (upsK l i).Nodup
  | 0 => by simp [upsK]
  | i + 1 => by
    rw [upsK]
    by_cases e : l[i]? = some 58
    · rw [if_pos e, List.nodup_cons]
      refine ⟨fun h => ?_, upsK_nodup l i⟩
      obtain ⟨j, hj, _, q⟩ := mem_upsK.1 h
      have := congrArg List.length q
      have := lt_of_colon e
      simp only [List.length_take] at *
      omega
    · rw [if_neg e]; exact upsK_nodup l i
/-- an account's names upwards are such -/
theorem ups_is : Ups ups where
  step := fun x p t h => by
    obtain ⟨j, a, b, _, rfl, rfl⟩ := upsK_head h
    have hl : (x.take j).length = j := by rw [List.length_take]; omega
    rw [ups, hl, upsK_take _ _ _ (Nat.le_refl _)]
  once := fun x => by
    rw [List.nodup_cons]
    refine ⟨fun h => ?_, upsK_nodup _ _⟩
    obtain ⟨j, b, q⟩ := mem_ups.1 h
    have h1 := congrArg List.length q
    have h2 := lt_of_colon b
    rw [List.length_take] at h1
    omega
/-- below: the bytes of the one, a colon, and more -/
theorem below_iff (a b : List UInt8) : b ∈ ups a ↔ b.length < a.length ∧ a.take b.length = b ∧ a[b.length]? = some 58 := by
  rw [mem_ups]
  constructor
  · rintro ⟨j, h, rfl⟩
    have := lt_of_colon h
    have hl : (a.take j).length = j := by rw [List.length_take]; omega
    rw [hl]
    exact ⟨this, rfl, h⟩
  · rintro ⟨_, h, c⟩
    exact ⟨b.length, c, h.symm⟩
/-- right below: and no colon behind -/
theorem right_iff (a b : List UInt8) : (ups a).head? = some b ↔ b ∈ ups a ∧ (58 : UInt8) ∉ a.drop (b.length + 1) := by
  constructor
  · intro h
    match e : ups a with
    | [] => simp [e] at h
    | p :: t =>
      rw [e] at h
      simp only [List.head?_cons, Option.some.injEq] at h
      subst h
      obtain ⟨j, hj, c, hn, q, _⟩ := upsK_head e
      have hl : p.length = j := by rw [q, List.length_take]; omega
      refine ⟨by simp, fun hm => ?_⟩
      obtain ⟨k, hk⟩ := List.getElem?_of_mem hm
      rw [List.getElem?_drop, hl] at hk
      exact hn _ (by omega) (lt_of_colon hk) hk
  · rintro ⟨hb, hn⟩
    match e : ups a with
    | [] => simp [e] at hb
    | p :: t =>
      obtain ⟨j, hj, c, hno, q, _⟩ := upsK_head e
      obtain ⟨b1, b2, b3⟩ := (below_iff a b).1 hb
      have hbj : b.length = j := by
        rcases Nat.lt_trichotomy b.length j with h | h | h
        · exfalso
          refine hn (List.mem_of_getElem? (i := j - (b.length + 1)) ?_)
          rw [List.getElem?_drop, ← c]
          congr 1; omega
        · exact h
        · exact absurd b3 (hno _ h b1)
      rw [List.head?_cons, q, ← b2, hbj]
/-- a root: no colon -/
theorem root_iff (a : List UInt8) : ups a = [] ↔ (58 : UInt8) ∉ a := by
  rw [List.eq_nil_iff_forall_not_mem]
  constructor
  · intro h hm
    obtain ⟨k, hk⟩ := List.getElem?_of_mem hm
    exact h _ (mem_ups.2 ⟨k, hk, rfl⟩)
  · intro h q hq
    obtain ⟨j, b, _⟩ := mem_ups.1 hq
    exact h (List.mem_of_getElem? b)
end Go.Proofs.YtenoaechonpjgaaDoor
