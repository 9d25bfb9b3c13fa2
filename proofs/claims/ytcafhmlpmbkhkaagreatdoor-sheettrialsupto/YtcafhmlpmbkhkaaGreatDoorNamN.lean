/- An account's name: its parts, and the document's way through it byte by byte. No program in it. -/
import Derived.Test.YtcafhmlpmbkhkaaGreatDoorNamB
import Derived.Lib.SplitLaws
namespace Go.Proofs.YtcafhmlpmbkhkaaGreatDoor
open Go
set_option linter.unusedVariables false
/-- cut at each colon -/
def spl : List UInt8 → List (List UInt8)
  | [] => [[]]
  | c :: l => if c = 58 then [] :: spl l else match spl l with
    | [] => [[c]]
    | h :: t => (c :: h) :: t
theorem spl_ne (l : List UInt8) : ∃ h t, spl l = h :: t := by
  cases l with
  | nil => exact ⟨_, _, rfl⟩
  | cons c l =>
    unfold spl
    split
    · exact ⟨_, _, rfl⟩
    · split
      · exact ⟨_, _, rfl⟩
      · exact ⟨_, _, rfl⟩
theorem spl_cons {c : UInt8} {l h : List UInt8} {t : List (List UInt8)} (hc : ¬ c = 58) (e : spl l = h :: t) : spl (c :: l) = (c :: h) :: t := by
  rw [spl, if_neg hc, e]
theorem spl_len (l : List UInt8) : (spl l).length = l.count 58 + 1 := by
  induction l with
  | nil => rfl
  | cons c l ih =>
    by_cases hc : c = 58
    · subst hc
      rw [spl, if_pos rfl, List.length_cons, ih, List.count_cons_self]
    · obtain ⟨h, t, e⟩ := spl_ne l
      rw [spl_cons hc e, List.length_cons, List.count_cons_of_ne (by simpa using hc)]
      rw [e, List.length_cons] at ih
      exact ih
theorem index_cons_eq (l : List UInt8) : Lib.index (58 :: l) [58] = 0 := by
  unfold Lib.index
  simp [List.isPrefixOf]
theorem index_cons_ne {c : UInt8} (l : List UInt8) (hc : ¬ c = 58) : Lib.index (c :: l) [58] = if Lib.index l [58] == -1 then -1 else Lib.index l [58] + 1 := by
  rw [Lib.index]
  have : ([58] : List UInt8).isPrefixOf (c :: l) = false := by simp [List.isPrefixOf]; exact fun e => hc e.symm
  rw [this]
  rfl
theorem spl_miss : ∀ (l : List UInt8), Lib.index l [58] = -1 → spl l = [l]
  | [], _ => rfl
  | c :: l, h => by
    by_cases hc : c = 58
    · subst hc
      rw [index_cons_eq] at h
      cases h
    · rw [index_cons_ne l hc] at h
      have h1 : Lib.index l [58] = -1 := by
        by_cases e : Lib.index l [58] = -1
        · exact e
        · have := Lib.index_ge l [58]
          rw [if_neg (by simpa using e)] at h
          omega
      rw [spl_cons hc (spl_miss l h1)]
theorem spl_hit : ∀ (l : List UInt8) (i : Nat), Lib.index l [58] = i → spl l = l.take i :: spl (l.drop (i + 1))
  | [], i, h => by simp [Lib.index] at h
  | c :: l, i, h => by
    by_cases hc : c = 58
    · subst hc
      rw [index_cons_eq] at h
      have : i = 0 := by omega
      subst this
      rw [spl, if_pos rfl]
      rfl
    · rw [index_cons_ne l hc] at h
      by_cases e : Lib.index l [58] = -1
      · rw [if_pos (by simpa using e)] at h
        omega
      · rw [if_neg (by simpa using e)] at h
        have hg := Lib.index_ge l [58]
        obtain ⟨j, hj⟩ : ∃ j : Nat, i = j + 1 := ⟨i - 1, by omega⟩
        subst hj
        rw [spl_cons hc (spl_hit l j (by omega))]
        rfl
theorem count_drop : ∀ (l : List UInt8) (i : Nat), Lib.index l [58] = i → l.count 58 = (l.drop (i + 1)).count 58 + 1
  | [], i, h => by simp [Lib.index] at h
  | c :: l, i, h => by
    by_cases hc : c = 58
    · subst hc
      rw [index_cons_eq] at h
      have : i = 0 := by omega
      subst this
      rw [List.count_cons_self]
      rfl
    · rw [index_cons_ne l hc] at h
      by_cases e : Lib.index l [58] = -1
      · rw [if_pos (by simpa using e)] at h
        omega
      · rw [if_neg (by simpa using e)] at h
        have hg := Lib.index_ge l [58]
        obtain ⟨j, hj⟩ : ∃ j : Nat, i = j + 1 := ⟨i - 1, by omega⟩
        subst hj
        rw [List.count_cons_of_ne (by simpa using hc), count_drop l j (by omega)]
        rfl
theorem splitK_spl : ∀ (k : Nat) (l : List UInt8), l.count 58 = k → Lib.splitK [58] 0 k l = spl l
  | 0, l, h => by
    have : Lib.index l [58] = -1 := by
      by_cases e : Lib.index l [58] = -1
      · exact e
      · have hg := Lib.index_ge l [58]
        obtain ⟨j, hj⟩ : ∃ j : Nat, Lib.index l [58] = j := ⟨(Lib.index l [58]).toNat, by omega⟩
        have := count_drop l j hj
        omega
    rw [spl_miss l this]
    rfl
  | k + 1, l, h => by
    have hg := Lib.index_ge l [58]
    by_cases e : Lib.index l [58] = -1
    · have h1 := spl_len l
      rw [spl_miss l e, h] at h1
      simp at h1
    · obtain ⟨j, hj⟩ : ∃ j : Nat, Lib.index l [58] = j := ⟨(Lib.index l [58]).toNat, by omega⟩
      have hc := count_drop l j hj
      rw [Lib.splitK, if_neg (by simpa using e), spl_hit l j hj, hj]
      have : ((j : Int)).toNat = j := by omega
      rw [this, splitK_spl k (l.drop (j + [58].length)) (by show (l.drop (j + 1)).count 58 = k; omega)]
      rfl
/-- a part, as a list -/
def partL (l : List UInt8) : Bool := !l.isEmpty && decide (l.length ≤ 16) && upB (l.getD 0 0).toNat && (l.drop 1).all fun b => partB b.toNat
theorem partS_eq (s : ByteArray) : partS s = partL s.data.toList := by
  unfold partS partL allL tail1 b0
  have e1 : (s.extract 1 s.size).data.toList = s.data.toList.drop 1 := Lib.extract_to_end s 1
  have e2 : (!decide (s.size = 0)) = !s.data.toList.isEmpty := by
    by_cases h : s.size = 0
    · have := empty_of_size h
      subst this
      rfl
    · have h1 := ne_of_size h
      rw [Lib.toList_data] at h1
      rw [h1, decide_eq_false h]
  have e3 : s.size = s.data.toList.length := by simp
  rw [e1, e2, e3]
def nameL (l : List UInt8) : Bool := decide (l.count 58 < 6) && (spl l).all partL
/-- the document's way: parts so far, bytes of this one -/
def nm (parts size : Nat) : List UInt8 → Bool
  | [] => decide (0 < size) && decide (parts ≤ 6)
  | c :: l => if c = 58 then (if size = 0 then false else nm (parts + 1) 0 l) else if (size = 0 ∧ upB c.toNat = false) ∨ partB c.toNat = false then false else if 16 < size + 1 then false else nm parts (size + 1) l
def pc (size : Nat) (h : List UInt8) : Bool := if size = 0 then partL h else (h.all fun b => partB b.toNat) && decide (size + h.length ≤ 16)
theorem partL_cons (c : UInt8) (h : List UInt8) : partL (c :: h) = (decide (h.length + 1 ≤ 16) && upB c.toNat && h.all fun b => partB b.toNat) := rfl
theorem nm_eq : ∀ (l : List UInt8) (parts size : Nat) (h : List UInt8) (t : List (List UInt8)), size ≤ 16 → spl l = h :: t → nm parts size l = (pc size h && t.all partL && decide (parts + t.length ≤ 6))
  | [], parts, size, h, t, hs, e => by
    injection e with e1 e2
    subst e1 e2
    unfold nm pc
    by_cases h0 : size = 0
    · subst h0
      simp [partL]
    · have : 0 < size := by omega
      simp [h0, this, hs]
  | c :: l, parts, size, h, t, hs, e => by
    obtain ⟨h', t', e'⟩ := spl_ne l
    by_cases hc : c = 58
    · subst hc
      rw [spl, if_pos rfl] at e
      injection e with e1 e2
      subst e1 e2
      rw [nm, if_pos rfl]
      by_cases h0 : size = 0
      · subst h0
        simp [pc, partL]
      · rw [if_neg h0, nm_eq l (parts + 1) 0 h' t' (by omega) e', e']
        have h3 : size ≤ 16 := hs
        have h4 : parts + 1 + t'.length = parts + (t'.length + 1) := by omega
        simp [pc, h0, hs, h4]
    · rw [spl_cons hc e'] at e
      injection e with e1 e2
      subst e1 e2
      rw [nm, if_neg hc]
      by_cases h0 : size = 0
      · subst h0
        by_cases hu : upB c.toNat = true
        · have hp : partB c.toNat = true := by unfold partB; rw [hu]; rfl
          rw [if_neg (by simp [hu, hp]), if_neg (by omega), nm_eq l parts 1 h' t' (by omega) e']
          have h5 : 1 + h'.length = h'.length + 1 := by omega
          simp only [pc, partL_cons, hu, h5]
          simp [Bool.and_comm]
        · have hu' : upB c.toNat = false := by simpa using hu
          rw [if_pos (.inl ⟨rfl, hu'⟩)]
          simp [pc, partL_cons, hu']
      · by_cases hp : partB c.toNat = true
        · rw [if_neg (by simp [h0, hp])]
          by_cases h6 : 16 < size + 1
          · rw [if_pos h6]
            have : ¬ size + (h'.length + 1) ≤ 16 := by omega
            simp [pc, h0, this]
          · rw [if_neg h6, nm_eq l parts (size + 1) h' t' (by omega) e']
            have h5 : size + 1 + h'.length = size + (h'.length + 1) := by omega
            simp [pc, h0, hp, h5]
        · have hp' : partB c.toNat = false := by simpa using hp
          rw [if_pos (.inr hp')]
          simp [pc, h0, hp']
theorem nm_name (l : List UInt8) : nm 1 0 l = nameL l := by
  obtain ⟨h, t, e⟩ := spl_ne l
  have hl := spl_len l
  rw [nm_eq l 1 0 h t (by omega) e, nameL, e]
  rw [e, List.length_cons] at hl
  have h1 : (1 + t.length ≤ 6) ↔ l.count 58 < 6 := by omega
  simp [pc, h1, Bool.and_comm]
end Go.Proofs.YtcafhmlpmbkhkaaGreatDoor
