/- sums: From (13): its walk. -/
import Derived.Test.YtgohddimnphbkaaDoorFrA
import Derived.OwnWalk
namespace Go.Proofs.YtgohddimnphbkaaDoor
open Go Go.RowKit Go.Shelf Go.ChangeShapes Go.WideShapes Go.ChangeAt Go.Maps Go.Sort
set_option linter.unusedVariables false
attribute [local go_sem ↓] ld47_is
def s35 (x y : Value) : Sem Unit := Instr.storeAt 35 x y
theorem s35_is (x y : Value) : Instr.storeAt 35 x y = s35 x y := rfl
theorem below_sets {B : Nat} {a : World} (b : Nat) (hb : B ≤ b) : ∀ (vs : List Value) (o : Nat) {w : World}, Below B a w → Below B a (w.setCells b o vs)
  | [], _, _, h => h
  | v :: r, o, _, h => below_sets b hb r (o + 1) (h.setCell (p := ⟨b, o, none⟩) hb v)
theorem size_sets (b : Nat) : ∀ (vs : List Value) (o : Nat) (w : World), (w.setCells b o vs).heap.size = w.heap.size
  | [], _, _ => rfl
  | v :: r, o, w => (size_sets b r (o + 1) _).trans (by simp)
theorem Mk.put {w W : World} {g n : Nat} {L : Rows8} {S : List (List UInt8)} {i : Nat} (hg : w.heap.size ≤ g) (h : Mk w W g n L S i) (hn : S.length = n) (hi : i < S.length) : Mk w (W.setCells g (i * 9) (bRow L S[i]).vals) g n L S (i + 1) where
  at' k hk hi' := by
    by_cases e : k = i
    · subst e
      exact World.rangeAt_setCells_same W g (k * 9) _ (fun j hj => by
        have h1 := h.th (k * 9 + j) (by rw [vals_len] at hj; omega)
        rw [Nat.zero_add] at h1
        exact h1)
    · exact World.rangeAt_setCells_apart (h.at' k hk (by omega)) g (i * 9) _ (.inr (.inl (by rw [vals_len]; omega)))
  th := World.there_setCells h.th g (i * 9) _
  lt := by rw [size_sets]; exact h.lt
  bel := below_sets g hg _ _ h.bel
theorem run_s35 {W : World} {g n i : Nat} (h : W.there g 0 (n * 9)) (hi : i < n) (L : Rows8) (s : ByteArray) (F : Int) : (s35 (.pointer (some ⟨g, i * 9, none⟩)) (.agg #[.int .i64 0, .int .i64 0, .int .i64 0, .int .i64 0, .string ⟨#[]⟩, .string s, .int .i64 F, .string ⟨#[]⟩, .string ⟨#[]⟩])).run Tryd.prog W = .ok () (W.setCells g (i * 9) [.int .i64 0, .int .i64 0, .int .i64 0, .int .i64 0, .string ⟨#[]⟩, .string s, .int .i64 F, .string ⟨#[]⟩, .string ⟨#[]⟩]) :=
  run_storeAt_mid (P := Tryd.prog) W g (i * 9) 35 #[.int .i64 0, .int .i64 0, .int .i64 0, .int .i64 0, .string ⟨#[]⟩, .string s, .int .i64 F, .string ⟨#[]⟩, .string ⟨#[]⟩] (fun j hj => by
    have h1 := h (i * 9 + j) (by simp at hj; omega)
    rw [Nat.zero_add] at h1
    exact h1) size35 (by simp [Value.oneCell'])
theorem Mk.first {w W : World} {n : Nat} {L : Rows8} {S : List (List UInt8)} {xs : List Value} (hr : W.ownsRow w.heap.size 35 9 (.slice (some ⟨w.heap.size, 0, none⟩) n n) n xs) (hg : w.grownBy W none) : Mk w W w.heap.size n L S 0 where
  at' k hk h := by omega
  th j hj := by
    rcases hr.2 with ⟨e, _⟩ | ⟨g, cap, cur, e, hB, hh, hc, hm, hcs, ht⟩
    · cases e
    · injection e with e1 e2 e3
      injection e1 with e1
      injection e1 with e1
      subst e1
      rw [Nat.zero_add]
      unfold World.cell? World.frozen?
      simp only [hh]
      have : j < cur.size := by rw [hcs, ← e3]; exact hj
      simp [this]
  lt := by
    rcases hr.2 with ⟨e, _⟩ | ⟨g, cap, cur, e, hB, hh, hc, hm, hcs, ht⟩
    · cases e
    · injection e with e1 e2 e3
      injection e1 with e1
      injection e1 with e1
      subst e1
      exact (Array.getElem?_eq_some_iff.1 hh).1
  bel := below_of_grown hg
end Go.Proofs.YtgohddimnphbkaaDoor
