import Derived.Test.YtcafhmlpmbkhkaaGreatDoorTxtB
namespace Go.Proofs.YtcafhmlpmbkhkaaGreatDoor
set_option linter.unusedVariables false

theorem ch_eq (c : Nat) : ch c = UInt8.ofNat (48 + c) := rfl
theorem dec_small {u : Nat} (h : u < 10) : Lib.decDigits u = [ch u] := Lib.decDigits_one h
theorem dec_step {u : Nat} (h : ¬ u < 10) : Lib.decDigits u = Lib.decDigits (u / 10) ++ [ch (u % 10)] := by
  rw [Lib.decDigits, dif_neg h]; rfl
theorem dmin_zero : ∀ (f v : Nat), v < 10 ^ f → dmin f v 0 = if v = 0 then [] else Lib.decDigits v
  | 0, v, h => by
    have : v = 0 := by simpa using h
    simp [this, dmin]
  | f + 1, v, h => by
    by_cases hv : v = 0
    · simp [hv, dmin]
    · rw [dmin_go (by omega), if_neg hv]
      have h2 : v / 10 < 10 ^ f := by rw [Nat.pow_succ] at h; omega
      rw [show 0 - 1 = 0 from rfl, dmin_zero f (v / 10) h2]
      by_cases h10 : v < 10
      · rw [if_pos (by omega), dec_small h10, Nat.mod_eq_of_lt h10]
        rfl
      · rw [if_neg (by omega), dec_step h10]
theorem dmin_one (f u : Nat) (h : u < 10 ^ (f + 1)) : dmin (f + 1) u 1 = Lib.decDigits u := by
  rw [dmin_go (by omega)]
  have h2 : u / 10 < 10 ^ f := by rw [Nat.pow_succ] at h; omega
  rw [show 1 - 1 = 0 from rfl, dmin_zero f (u / 10) h2]
  by_cases h10 : u < 10
  · rw [if_pos (by omega), dec_small h10, Nat.mod_eq_of_lt h10]
    rfl
  · rw [if_neg (by omega), dec_step h10]
def pad (n : Nat) (l : List UInt8) : List UInt8 := List.replicate (n - l.length) 48 ++ l
theorem dec_pos (u : Nat) : 1 ≤ (Lib.decDigits u).length := by
  by_cases h : u < 10
  · rw [dec_small h]; simp
  · rw [dec_step h]; simp
theorem split_digits : ∀ (d F u : Nat), d ≤ F → u < 10 ^ 30 → dmin 40 (u / 10 ^ d) 1 ++ dmin F (u % 10 ^ d) d = pad (d + 1) (Lib.decDigits u) ∧ (dmin F (u % 10 ^ d) d).length = d
  | 0, F, u, hF, hu => by
    have e : dmin F (u % 10 ^ 0) 0 = [] := dmin_end (by simp [Nat.mod_one])
    have h1 := dec_pos u
    rw [e, Nat.pow_zero, Nat.div_one, dmin_one 39 u (Nat.lt_of_lt_of_le hu (Nat.pow_le_pow_right (by decide) (by decide)))]
    refine ⟨?_, rfl⟩
    unfold pad
    rw [show 0 + 1 - (Lib.decDigits u).length = 0 by omega]
    simp
  | d + 1, F, u, hF, hu => by
    obtain ⟨G, rfl⟩ : ∃ G, F = G + 1 := ⟨F - 1, by omega⟩
    have ih := split_digits d G (u / 10) (by omega) (by omega)
    have e1 : u / 10 ^ (d + 1) = u / 10 / 10 ^ d := by rw [Nat.pow_succ, Nat.mul_comm, Nat.div_div_eq_div_mul]
    have e2 : u % 10 ^ (d + 1) / 10 = u / 10 % 10 ^ d := by
      rw [Nat.pow_succ, Nat.mul_comm, Nat.mod_mul_right_div_self]
    have e3 : u % 10 ^ (d + 1) % 10 = u % 10 := by rw [Nat.pow_succ, Nat.mul_comm]; exact Nat.mod_mul_right_mod u 10 (10 ^ d)
    have eg : dmin (G + 1) (u % 10 ^ (d + 1)) (d + 1) = dmin G (u / 10 % 10 ^ d) d ++ [ch (u % 10)] := by
      rw [dmin_go (by omega), e2, e3]
      rfl
    rw [eg, e1]
    refine ⟨?_, by rw [List.length_append, ih.2]; rfl⟩
    rw [← List.append_assoc, ih.1]
    unfold pad
    by_cases h10 : u < 10
    · have hz : u / 10 = 0 := by omega
      rw [hz, dec_small h10, dec_small (show 0 < 10 by decide), Nat.mod_eq_of_lt h10]
      have : ch 0 = 48 := rfl
      rw [this]
      simp only [List.length_cons, List.length_nil]
      rw [show d + 1 - (0 + 1) = d by omega, show d + 1 + 1 - (0 + 1) = d + 1 by omega, List.replicate_succ']
    · rw [dec_step h10]
      simp only [List.length_append, List.length_cons, List.length_nil]
      rw [show d + 1 + 1 - ((Lib.decDigits (u / 10)).length + (0 + 1)) = d + 1 - (Lib.decDigits (u / 10)).length by omega, List.append_assoc]

/-- an amount's text -/
def txt (a : Int) (d : Nat) : List UInt8 :=
  (if a < 0 then [45] else []) ++ (dmin 40 (a.natAbs / 10 ^ d) 1 ++ if d = 0 then [] else 46 :: dmin 40 (a.natAbs % 10 ^ d) d)
end Go.Proofs.YtcafhmlpmbkhkaaGreatDoor
