/- money.Sum (30) of a row of numbers that the call owns. -/
import Derived.Test.YtgohddimnphbkaaDoorMnyA
import Derived.Test.YtgohddimnphbkaaDoorTwA
namespace Go.Proofs.YtgohddimnphbkaaDoor
open Go Go.ChangeShapes Go.WideShapes Go.ChangeAt Go.RowKit Go.Maps
set_option linter.unusedVariables false
abbrev isA (x : Int) : Prop := -9223372036854775807 ≤ x ∧ x ≤ 9223372036854775807
/-- what Sum answers of amounts -/
def sumA (l : List Int) : Int × Int := if isA (sm id l) then (sm id l, 0) else (0, 11)
theorem sumZ_list (l : List Int) : ∀ k, k ≤ l.length → sumZ (fun i => l.getD i 0) k = sm id (l.take k)
  | 0, _ => rfl
  | k + 1, h => by
    have e : l.take (k + 1) = l.take k ++ [l[k]] := List.take_succ_eq_append_getElem (by omega)
    rw [e, sm_append]
    simp only [sumZ, sm]
    rw [sumZ_list l k (by omega)]
    have : l.getD k 0 = l[k] := by simp [List.getD, List.getElem?_eq_getElem (show k < l.length by omega)]
    rw [this]
    simp
theorem anyMin_list {l : List Int} (h : ∀ x ∈ l, isA x) : ∀ k, k ≤ l.length → anyMin (fun i => l.getD i 0) k = false
  | 0, _ => rfl
  | k + 1, hk => by
    simp only [anyMin, anyMin_list h k (by omega), Bool.false_or]
    have e : l.getD k 0 = l[k] := by simp [List.getD, List.getElem?_eq_getElem (show k < l.length by omega)]
    rw [e]
    have := h l[k] (List.getElem_mem _)
    rw [beq_eq_false_iff_ne]
    omega
theorem sumSpec_list {l : List Int} (h : ∀ x ∈ l, isA x) : sumSpec (fun i => l.getD i 0) l.length = sumA l := by
  unfold sumSpec sumA
  rw [anyMin_list h _ (Nat.le_refl _), sumZ_list l _ (Nat.le_refl _), List.take_length]
  simp only [Bool.false_eq_true, if_false]
  by_cases hc : -9223372036854775807 ≤ sm id l ∧ sm id l ≤ 9223372036854775807
  · rw [if_pos (show isA (sm id l) from hc), if_pos (by omega)]
  · rw [if_neg (show ¬ isA (sm id l) from hc), if_neg (by omega)]
theorem msum_rows {w : World} {B : Nat} {v : Value} {l : List Int} (h : w.ownsInts B 2 .i64 v l) (hne : l ≠ []) (hl : l.length ≤ 9223372036854775807) (hA : ∀ x ∈ l, isA x) :
    Calls Tryd.prog 30 #[v] w fun e w' => e = .returned (.tuple #[.int .i64 (sumA l).1, .int .i64 (sumA l).2]) ∧ w' = w := by
  rcases h.1.2 with ⟨e, h2⟩ | ⟨g, cap, cur, e, hB, hh, hc, hm, hcs, ht⟩
  · exact absurd (List.eq_nil_of_length_eq_zero h2) hne
  · subst e
    rw [← sumSpec_list hA]
    refine msum_any _ g 0 l.length cap hl (fun k hk => ?_) w (fun k hk => ?_)
    · have e : l.getD k 0 = l[k] := by simp [List.getD, List.getElem?_eq_getElem hk]
      rw [e]
      have := hA l[k] (List.getElem_mem _)
      omega
    · have hk2 : (cur.toList.take (l.length * 1))[k]? = some (.int .i64 l[k]) := by rw [ht]; simp [List.getElem?_eq_getElem hk]
      rw [List.getElem?_take_of_lt (by omega)] at hk2
      have e : l.getD k 0 = l[k] := by simp [List.getD, List.getElem?_eq_getElem hk]
      simp only [e]
      unfold World.cell?
      simp only [hh, Nat.zero_add]
      simpa using hk2
end Go.Proofs.YtgohddimnphbkaaDoor
