/- Plain arrays: the merge of two sorted runs by rotations. Nothing of the program. -/
import Derived.Test.YtddpladmkmpoaaaStbN
namespace Go.Proofs.Ytddpladmkmpoaaa
open Go.Sort
set_option linter.unusedVariables false
/-- a cut through both runs: [a, s) and [m, e) go ahead of [s, m) and [e, b) -/
structure Cut (d : Array Sh) (a s m e b : Nat) : Prop where
  as : a ≤ s
  sm : s ≤ m
  me : m ≤ e
  eb : e ≤ b
  lo : ∀ x y, a ≤ x → x < s → e ≤ y → y < b → lts d[x]! d[y]!
  hi : ∀ y x, m ≤ y → y < e → s ≤ x → x < m → lts d[y]! d[x]!
/-- behind the rotation -/
structure Rot (d c : Array Sh) (s m e : Nat) : Prop where
  z1 : ∀ x, x < s → c[x]! = d[x]!
  z2 : ∀ x, s ≤ x → x < s + (e - m) → c[x]! = d[x - s + m]!
  z3 : ∀ x, s + (e - m) ≤ x → x < e → c[x]! = d[x - (e - m)]!
  z4 : ∀ x, e ≤ x → c[x]! = d[x]!
theorem rot_of {d c : Array Sh} {s m e : Nat} (hs : s ≤ m) (hm : m ≤ e) (h : ∀ x, c[x]! = rotF d s m e x) : Rot d c s m e := by
  refine ⟨fun x h1 => ?_, fun x h1 h2 => ?_, fun x h1 h2 => ?_, fun x h1 => ?_⟩
  all_goals
    rw [h]
    unfold rotF
    (repeat' split) <;> first | rfl | (exfalso; omega)
section
variable {d c : Array Sh} {a s m e b : Nat}
theorem Rot.s1 (R : Rot d c s m e) (h : Srt d a m) (hsm : s ≤ m) : Srt c a s := fun x y h1 h2 h3 => by
  rw [R.z1 x (by omega), R.z1 y h3]
  exact h x y h1 h2 (by omega)
theorem Rot.s2 (R : Rot d c s m e) (h : Srt d m b) (heb : e ≤ b) (hme : m ≤ e) : Srt c s (s + (e - m)) := fun x y h1 h2 h3 => by
  rw [R.z2 x h1 (by omega), R.z2 y (by omega) h3]
  exact h _ _ (by omega) (by omega) (by omega)
theorem Rot.s3 (R : Rot d c s m e) (h : Srt d a m) (has : a ≤ s) (hsm : s ≤ m) (hme : m ≤ e) : Srt c (s + (e - m)) e := fun x y h1 h2 h3 => by
  rw [R.z3 x h1 (by omega), R.z3 y (by omega) h3]
  exact h _ _ (by omega) (by omega) (by omega)
theorem Rot.s4 (R : Rot d c s m e) (h : Srt d m b) (hme : m ≤ e) : Srt c e b := fun x y h1 h2 h3 => by
  rw [R.z4 x h1, R.z4 y (by omega)]
  exact h _ _ (by omega) h2 h3
theorem Rot.c1 (R : Rot d c s m e) (h : Crs d a m b) (hsm : s ≤ m) (hme : m ≤ e) (heb : e ≤ b) : Crs c a s (s + (e - m)) := fun x y h1 h2 h3 h4 h5 => by
  rw [R.z1 x h2, R.z2 y h3 h4] at *
  exact h _ _ h1 (by omega) (by omega) (by omega) h5
theorem Rot.c2 (R : Rot d c s m e) (h : Crs d a m b) (has : a ≤ s) (hsm : s ≤ m) (hme : m ≤ e) : Crs c (s + (e - m)) e b := fun x y h1 h2 h3 h4 h5 => by
  rw [R.z3 x h1 h2, R.z4 y h3] at *
  exact h _ _ (by omega) (by omega) (by omega) h4 h5
/-- the lower half is ahead of the upper one -/
theorem Rot.half (R : Rot d c s m e) (C : Cut d a s m e b) (h1 : Srt d a m) (h2 : Srt d m b) : ∀ x y, a ≤ x → x < s + (e - m) → s + (e - m) ≤ y → y < b → lts c[x]! c[y]! := by
  intro x y hx1 hx2 hy1 hy2
  have := C.as; have := C.sm; have := C.me; have := C.eb
  by_cases hx : x < s
  · rw [R.z1 x hx]
    by_cases hy : y < e
    · rw [R.z3 y hy1 hy]
      exact h1 _ _ hx1 (by omega) (by omega)
    · rw [R.z4 y (by omega)]
      exact C.lo _ _ hx1 hx (by omega) hy2
  · rw [R.z2 x (by omega) hx2]
    by_cases hy : y < e
    · rw [R.z3 y hy1 hy]
      exact C.hi _ _ (by omega) (by omega) (by omega) (by omega)
    · rw [R.z4 y (by omega)]
      exact h2 _ _ (by omega) (by omega) hy2
end
/-- two halves, each sorted, the lower one ahead -/
theorem srt_join {c : Array Sh} {a k b : Nat} (h1 : Srt c a k) (h2 : Srt c k b) (h : ∀ x y, a ≤ x → x < k → k ≤ y → y < b → lts c[x]! c[y]!) : Srt c a b := by
  intro x y hx hxy hy
  by_cases h3 : y < k
  · exact h1 x y hx hxy h3
  · by_cases h4 : x < k
    · exact h x y hx h4 (by omega) hy
    · exact h2 x y (by omega) hxy hy
theorem half_perm {c c' : Array Sh} {a k b : Nat} (hk : a ≤ k) (hkb : k ≤ b) (hb : b ≤ c.size) (P : PermIn a k c c') (h : ∀ x y, a ≤ x → x < k → k ≤ y → y < b → lts c[x]! c[y]!) : ∀ x y, a ≤ x → x < k → k ≤ y → y < b → lts c'[x]! c'[y]! := by
  intro x y h1 h2 h3 h4
  rw [P.2.1 y (.inr h3)]
  exact permIn_all c c' a k (fun z => lts z c[y]!) (by omega) P (fun i hi1 hi2 => h i y hi1 hi2 h3 h4) x h1 h2
theorem half_perm2 {c c' : Array Sh} {a k b : Nat} (hk : a ≤ k) (hkb : k ≤ b) (hb : b ≤ c.size) (P : PermIn k b c c') (h : ∀ x y, a ≤ x → x < k → k ≤ y → y < b → lts c[x]! c[y]!) : ∀ x y, a ≤ x → x < k → k ≤ y → y < b → lts c'[x]! c'[y]! := by
  intro x y h1 h2 h3 h4
  rw [P.2.1 x (.inl h2)]
  exact permIn_all c c' k b (fun z => lts c[x]! z) hb P (fun i hi1 hi2 => h x i h1 h2 hi1 hi2) y h3 h4
theorem srt_out {c c' : Array Sh} {a b l r : Nat} (P : PermIn l r c c') (h : Srt c a b) (ho : b ≤ l ∨ r ≤ a) : Srt c' a b := by
  intro x y h1 h2 h3
  rw [P.2.1 x (by omega), P.2.1 y (by omega)]
  exact h x y h1 h2 h3
theorem crs_out {c c' : Array Sh} {a m b l r : Nat} (P : PermIn l r c c') (h : Crs c a m b) (ho : b ≤ l ∨ r ≤ a) : Crs c' a m b := by
  intro x y h1 h2 h3 h4
  rw [P.2.1 x (by omega), P.2.1 y (by omega)]
  exact h x y h1 h2 h3 h4
/-- the comparison by rests decides across the runs -/
theorem crs_lt {d : Array Sh} {a m b x y : Nat} (h : Crs d a m b) (h1 : a ≤ x) (h2 : x < m) (h3 : m ≤ y) (h4 : y < b) : (d[x]!.r < d[y]!.r → lts d[y]! d[x]!) ∧ (¬ d[x]!.r < d[y]!.r → lts d[x]! d[y]!) := by
  have := h x y h1 h2 h3 h4
  unfold lts
  omega
/-- what the search in the two runs has found so far -/
structure Fnd (d : Array Sh) (p s0 r0 s r : Nat) : Prop where
  lo : s0 ≤ s
  sr : s ≤ r
  hi : r ≤ r0
  fl : s = s0 ∨ lts d[s - 1]! d[p - (s - 1)]!
  fr : r = r0 ∨ lts d[p - r]! d[r]!
/-- the search's end is a cut -/
theorem Fnd.cut {d : Array Sh} {a m b mid s s0 r0 : Nat} (F : Fnd d (mid + m - 1) s0 r0 s s) (ham : a < m) (hmb : m < b) (hmid : mid = (a + b) / 2) (h0 : mid < m ∧ s0 = mid + m - b ∧ r0 = mid ∨ m ≤ mid ∧ s0 = a ∧ r0 = m)
    (h1 : Srt d a m) (h2 : Srt d m b) : Cut d a s m (mid + m - s) b := by
  have := F.lo; have := F.hi
  have hs : a ≤ s ∧ s ≤ m ∧ m ≤ mid + m - s ∧ mid + m - s ≤ b := by omega
  refine ⟨hs.1, hs.2.1, hs.2.2.1, hs.2.2.2, ?_, ?_⟩
  · intro x y hx1 hx2 hy1 hy2
    rcases F.fl with h | h
    · exfalso; omega
    · rw [show mid + m - 1 - (s - 1) = mid + m - s by omega] at h
      have ha : x = s - 1 ∨ x < s - 1 := by omega
      have hb : y = mid + m - s ∨ mid + m - s < y := by omega
      rcases ha with rfl | ha
      · rcases hb with rfl | hb
        · exact h
        · exact lts_trans h (h2 _ _ (by omega) hb hy2)
      · have k := h1 x (s - 1) hx1 ha (by omega)
        rcases hb with rfl | hb
        · exact lts_trans k h
        · exact lts_trans k (lts_trans h (h2 _ _ (by omega) hb hy2))
  · intro y x hy1 hy2 hx1 hx2
    rcases F.fr with h | h
    · exfalso; omega
    · have ha : y = mid + m - 1 - s ∨ y < mid + m - 1 - s := by omega
      have hb : x = s ∨ s < x := by omega
      rcases ha with rfl | ha
      · rcases hb with rfl | hb
        · exact h
        · exact lts_trans h (h1 _ _ (by omega) hb hx2)
      · have k := h2 y (mid + m - 1 - s) hy1 ha (by omega)
        rcases hb with rfl | hb
        · exact lts_trans k h
        · exact lts_trans k (lts_trans h (h1 _ _ (by omega) hb hx2))
end Go.Proofs.Ytddpladmkmpoaaa
