/- An account's path: the names above one. No program in it. -/
import Derived.Test.YtcafhmlpmbkhkaaGreatDoorNamN
import Derived.Lib.LastIndexByte
namespace Go.Proofs.YtcafhmlpmbkhkaaGreatDoor
open Go
set_option linter.unusedVariables false
theorem spl_append (a b : List UInt8) : spl (a ++ 58 :: b) = spl a ++ spl b := by
  induction a with
  | nil => simp [spl]
  | cons c a ih =>
    rw [List.cons_append]
    by_cases hc : c = 58
    · rw [spl, if_pos hc, ih, spl, if_pos hc]
      rfl
    · obtain ⟨h, t, e⟩ := spl_ne a
      rw [spl_cons hc e]
      have e2 : spl (a ++ 58 :: b) = h :: (t ++ spl b) := by rw [ih, e]; rfl
      rw [spl_cons hc e2]
      rfl
theorem name_above {a b : List UInt8} (h : nameL (a ++ 58 :: b) = true) : nameL a = true := by
  unfold nameL at h ⊢
  rw [spl_append, List.all_append, List.count_append] at h
  simp only [Bool.and_eq_true, decide_eq_true_eq] at h ⊢
  exact ⟨by have := h.1; omega, h.2.1⟩
/-- the names above one, among its first bytes, the longest first -/
def upsK (l : List UInt8) : Nat → List (List UInt8)
  | 0 => []
  | i + 1 => if l[i]? = some 58 then l.take i :: upsK l i else upsK l i
def ups (l : List UInt8) : List (List UInt8) := upsK l l.length
/-- an account's path -/
def pathL (l : List UInt8) : List (List UInt8) := if nameL l = true then l :: ups l else []
theorem upsK_take (l : List UInt8) (j : Nat) : ∀ i, i ≤ j → upsK (l.take j) i = upsK l i
  | 0, _ => rfl
  | i + 1, h => by
    have e1 : (l.take j)[i]? = l[i]? := List.getElem?_take_of_lt (by omega)
    have e2 : (l.take j).take i = l.take i := by rw [List.take_take]; congr 1; omega
    rw [upsK, upsK, e1, e2, upsK_take l j i (by omega)]
theorem upsK_skip (l : List UInt8) (i : Nat) : ∀ n, i ≤ n → (∀ k, i ≤ k → k < n → l[k]? ≠ some 58) → upsK l n = upsK l i
  | 0, h, _ => by have : i = 0 := by omega
                  subst this; rfl
  | n + 1, h, hk => by
    by_cases e : i = n + 1
    · subst e; rfl
    · rw [upsK, if_neg (hk n (by omega) (by omega))]
      exact upsK_skip l i n (by omega) (fun k h1 h2 => hk k h1 (by omega))
theorem upsK_len (l : List UInt8) : ∀ i, i ≤ l.length → (upsK l i).length = (l.take i).count 58
  | 0, _ => by simp [upsK]
  | i + 1, h => by
    have hi : i < l.length := by omega
    have e : l.take (i + 1) = l.take i ++ [l[i]] := by rw [List.take_append_getElem]
    have e2 : l[i]? = some l[i] := List.getElem?_eq_getElem hi
    rw [upsK, e, List.count_append, e2]
    by_cases hc : l[i] = 58
    · rw [hc, if_pos rfl, List.length_cons, upsK_len l i (by omega)]
      simp
    · rw [if_neg (by simpa using hc), upsK_len l i (by omega)]
      have : [l[i]].count 58 = 0 := by rw [List.count_eq_zero]; simpa using fun e => hc e.symm
      omega
theorem path_len (l : List UInt8) : (pathL l).length ≤ 6 := by
  unfold pathL
  by_cases h : nameL l = true
  · rw [if_pos h, List.length_cons, ups, upsK_len l _ (Nat.le_refl _), List.take_length]
    unfold nameL at h
    simp only [Bool.and_eq_true, decide_eq_true_eq] at h
    omega
  · rw [if_neg h]; simp
theorem ups_none (l : List UInt8) (h : l.contains 58 = false) : ups l = [] := by
  rw [ups, upsK_skip l 0 l.length (by omega) (fun k _ hk e => ?_)]
  · rfl
  · have : (58 : UInt8) ∈ l := List.mem_of_getElem? e
    rw [List.contains_iff_mem.2 this] at h
    cases h
/-- the last colon -/
theorem ups_some (s : ByteArray) (h : s.data.toList.contains 58 = true) : ∃ j : Nat, j < s.size ∧ Lib.lastIndexByte s 58 = (j : Int) ∧ ups s.data.toList = s.data.toList.take j :: ups (s.data.toList.take j) ∧ (nameL s.data.toList = true → nameL (s.data.toList.take j) = true) := by
  have hb : ∀ j, j < s.size → s.data.toList[j]? = some s.data[j]! := fun j hj => by
    have hj' : j < s.data.size := hj
    rw [Array.getElem?_toList, Array.getElem?_eq_getElem hj', getElem!_pos s.data j hj']
  rcases Lib.lastIndexByte_spec s 58 with ⟨_, hno⟩ | ⟨j, hj, he, hc, hnb⟩
  · exfalso
    have hm : (58 : UInt8) ∈ s.data.toList := List.contains_iff_mem.1 h
    obtain ⟨k, hk⟩ := List.getElem?_of_mem hm
    have hks : k < s.size := by
      have := (List.getElem?_eq_some_iff.1 hk).1
      simpa using this
    rw [hb k hks] at hk
    injection hk with hk
    exact hno k hks (by rw [hk]; rfl)
  · have hsz : s.data.toList.length = s.size := by simp
    have h58 : s.data[j]! = 58 := by
      apply UInt8.toNat_inj.1
      have : (s.data[j]!).toNat = 58 := by exact_mod_cast hc
      exact this
    have hj58 : s.data.toList[j]? = some 58 := by rw [hb j hj, h58]
    have hle : (s.data.toList.take j).length = j := by rw [List.length_take, hsz]; omega
    refine ⟨j, hj, he, ?_, fun hn => ?_⟩
    · rw [ups, upsK_skip s.data.toList (j + 1) s.data.toList.length (by omega) (fun k h1 h2 e => ?_), upsK, if_pos hj58, ups, hle, upsK_take _ _ _ (Nat.le_refl _)]
      rw [hsz] at h2
      rw [hb k h2] at e
      injection e with e
      exact hnb k (by omega) h2 (by rw [e]; rfl)
    · have e : s.data.toList = s.data.toList.take j ++ 58 :: s.data.toList.drop (j + 1) := by
        have h1 := List.take_append_drop j s.data.toList
        have h2 : s.data.toList.drop j = 58 :: s.data.toList.drop (j + 1) := by
          have hjl : j < s.data.toList.length := by omega
          rw [List.drop_eq_getElem_cons hjl]
          congr 1
          rw [List.getElem?_eq_getElem hjl] at hj58
          injection hj58
        rw [← h2, h1]
      rw [e] at hn
      exact name_above hn
end Go.Proofs.YtcafhmlpmbkhkaaGreatDoor
