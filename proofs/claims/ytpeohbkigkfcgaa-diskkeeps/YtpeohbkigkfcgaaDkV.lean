/- The document's Same (11), of two states with the same files. -/
import Derived.Test.YtpeohbkigkfcgaaDkO
import Derived.Laws.BytesArg
namespace Go.Proofs.Ytpeohbkigkfcgaa
open Go Go.Shelf Go.ChangeShapes Go.WideShapes Go.ChangeAt Go.RowKit Go.Maps Go.Sort
set_option linter.unusedVariables false
theorem StCells.at {W : World} {b e : Nat} {A : Fs} {xs : List Value} (h : StCells W b e A xs) : ∀ {i : Nat} {k : List UInt8} {x : Fl}, A[i]? = some (k, x) → ∃ p c b', xs[i * 3]? = some (encStr k) ∧ xs[i * 3 + 1]? = some (.slice p x.bs.length c) ∧ xs[i * 3 + 2]? = some (.int .i64 (x.sy : Int)) ∧ W.ownsRow b' 5 1 (.slice p x.bs.length c) x.bs.length (bcs x.bs) := by
  induction h with
  | nil _ => intro i k x h; simp at h
  | cons hr hl hb hs ih =>
    intro i k x h
    cases i with
    | zero =>
      simp only [List.getElem?_cons_zero, Option.some.injEq, Prod.mk.injEq] at h
      obtain ⟨rfl, rfl⟩ := h
      exact ⟨_, _, _, rfl, rfl, rfl, hr⟩
    | succ i =>
      simp only [List.getElem?_cons_succ] at h
      obtain ⟨p, c, b', h1, h2, h3, h4⟩ := ih h
      refine ⟨p, c, b', ?_, ?_, ?_, h4⟩
      · rw [show (i + 1) * 3 = i * 3 + 1 + 1 + 1 by omega]; exact h1
      · rw [show (i + 1) * 3 + 1 = (i * 3 + 1) + 1 + 1 + 1 by omega]; exact h2
      · rw [show (i + 1) * 3 + 2 = (i * 3 + 2) + 1 + 1 + 1 by omega]; exact h3
/-- what a file of a state is in memory -/
theorem FilesRow.at {W : World} {b e : Nat} {v : Value} {A : Fs} (h : FilesRow W b e v A) {i : Nat} {k : List UInt8} {x : Fl} (hi : A[i]? = some (k, x)) : ∃ g cap p c b', v = .slice (some ⟨g, 0, none⟩) A.length cap ∧ g < W.heap.size ∧ W.cell? ⟨g, i * 3, none⟩ = some (encStr k) ∧ W.cell? ⟨g, i * 3 + 1, none⟩ = some (.slice p x.bs.length c) ∧ W.cell? ⟨g, i * 3 + 2, none⟩ = some (.int .i64 (x.sy : Int)) ∧ W.ownsRow b' 5 1 (.slice p x.bs.length c) x.bs.length (bcs x.bs) := by
  obtain ⟨xs, hr, hs⟩ := h
  obtain ⟨p, c, b', h1, h2, h3, h4⟩ := hs.at hi
  have hpos : 0 < A.length := by
    rw [List.getElem?_eq_some_iff] at hi
    obtain ⟨hi, _⟩ := hi
    omega
  obtain ⟨g, cap, rfl⟩ := own_open hr hpos
  refine ⟨g, cap, p, c, b', rfl, (hr.lt g rfl).2, ?_, ?_, ?_, h4⟩
  · have := hr.cells (g := g) rfl _ _ h1
    rw [Addr.add_mid, Nat.zero_add] at this
    exact this
  · have := hr.cells (g := g) rfl _ _ h2
    rw [Addr.add_mid, Nat.zero_add] at this
    exact this
  · have := hr.cells (g := g) rfl _ _ h3
    rw [Addr.add_mid, Nat.zero_add] at this
    exact this
theorem FilesRow.form {W : World} {b e : Nat} {v : Value} {A : Fs} (h : FilesRow W b e v A) : ∃ p c, v = .slice p A.length c := by
  obtain ⟨xs, hr, _⟩ := h
  rcases hr.2 with ⟨h1, h2⟩ | ⟨g, cap, cur, h1, _⟩
  · exact ⟨none, 0, by rw [h1, h2]⟩
  · exact ⟨_, _, h1⟩
theorem FilesRow.below {W W' : World} {b e : Nat} {v : Value} {A : Fs} (h : FilesRow W b e v A) (he : e ≤ W.heap.size) (hb : Below W.heap.size W W') : FilesRow W' b e v A := by
  obtain ⟨xs, hr, hs⟩ := h
  exact ⟨xs, own_below hr hb, hs.far (fun q _ h2 _ => hb.block q (by omega))⟩
def txtB (bs : List UInt8) : ByteArray := strOfNums (bs.map fun b => (b.toNat : Int))
set_option maxRecDepth 100000 in
theorem conv_row {W : World} {b c : Nat} {p : Option Addr} {bs : List UInt8} (h : W.ownsRow b 5 1 (.slice p bs.length c) bs.length (bcs bs)) : (convert 27 9 (.slice p bs.length c)).run Try.prog W = .ok (.string (txtB bs)) W := by
  rcases h.2 with ⟨h1, h2⟩ | ⟨g, cap, cur, h1, _⟩
  · injection h1 with h1 h1b h1c
    subst h1 h1c
    have hb : bs = [] := List.eq_nil_of_length_eq_zero h2
    subst hb
    exact run_convert_bytes_nil W 27 5 Try.underlying27 Try.underlying5 _ _ 9 Try.underlying9
  · injection h1 with h1 _ h1c
    subst h1 h1c
    refine run_convert_bytes_arg W 27 5 Try.underlying27 Try.underlying5 g 0 bs.length _ (bs.map fun b => (b.toNat : Int)) (by simp) (fun i hi => ?_) 9 Try.underlying9
    have := h.cells (g := g) rfl i _ (bcs_get hi)
    rw [Addr.add_mid] at this
    rw [this]
    simp [List.getD_eq_getElem?_getD, hi]
set_option maxRecDepth 100000 in
set_option maxHeartbeats 4000000 in
theorem same_ok {w : World} (cap fuse : Int) (down : Bool) {va vb : Value} {A : Fs} {b1 e1 b2 e2 : Nat} (ha : FilesRow w b1 e1 va A) (hb : FilesRow w b2 e2 vb A) (he1 : e1 ≤ w.heap.size) (he2 : e2 ≤ w.heap.size) (hl : A.length ≤ 64) :
    Calls Try.prog 11 #[.agg #[.int .i64 cap, va, .int .i64 fuse, .bool down], .agg #[.int .i64 cap, vb, .int .i64 fuse, .bool down]] w fun e w' => e = .returned (.bool true) ∧ Below w.heap.size w w' := by
  obtain ⟨pa, ca, rfl⟩ := ha.form
  obtain ⟨pb, cb, rfl⟩ := hb.form
  obtain ⟨L, hL⟩ : ∃ L, L = A.length := ⟨_, rfl⟩
  rw [← hL] at hl ha hb ⊢
  have HL := hide hL
  clear hL
  obtain ⟨w1, hw1⟩ : ∃ w1, w1 = (w.alloc (.cells #[.int .i64 cap, .slice pa L ca, .int .i64 fuse, .bool down] 31)).alloc (.cells #[.int .i64 cap, .slice pb L cb, .int .i64 fuse, .bool down] 31) := ⟨_, rfl⟩
  have hb1 : Below w.heap.size w w1 := by rw [hw1]; exact bal (bal (Below.refl _ _) _) _
  have hz1 : w1.heap.size = w.heap.size + 1 + 1 := by rw [hw1]; simp
  have k1 : w1.cell? ⟨w.heap.size, 1, none⟩ = some (.slice pa L ca) := by rw [hw1]; simp
  have k2 : w1.cell? ⟨w.heap.size + 1, 1, none⟩ = some (.slice pb L cb) := by rw [hw1]; simp
  have HA := hide (ha.below he1 hb1); have HB := hide (hb.below he2 hb1)
  have H1 := hide hw1
  have HB1 := hide hb1
  clear ha hb hw1 hb1
  cases down <;>
  · go_enter Try.func11, Try.ntmps11
    go_wp2_with fail
    rw [← unhide H1]
    go_loopw [5] (fun u wr => ∃ i : Nat, i ≤ L ∧ u = .int .i64 (i : Int) ∧ Below w1.heap.size w1 wr) (fun u _ => L - (intOf u).toNat)
    case atStart => exact ⟨0, Nat.zero_le _, rfl, Below.refl _ _⟩
    case round =>
      obtain ⟨i, hi, rfl, hbr⟩ := hrel
      have l1 := keep1 hbr (by omega) k1
      have l2 := keep1 hbr (by omega) k2
      have HBR := hide hbr
      by_cases hlt : i < L
      · have hkx : ∃ k x, A[i]? = some (k, x) := by
          have : i < A.length := by rw [← unhide HL]; exact hlt
          exact ⟨_, _, List.getElem?_eq_getElem this⟩
        obtain ⟨k, x, hkx⟩ := hkx
        obtain ⟨ga, xa, p1, c1, b1', ea, la, a0, a1, a2, ra⟩ := (unhide HA).at hkx
        obtain ⟨gb, xb, p2, c2, b2', eb, lb, d0, d1, d2, rb⟩ := (unhide HB).at hkx
        injection ea with ea _ ea3
        injection eb with eb _ eb3
        subst ea eb
        obtain ⟨s, hs⟩ : ∃ s : ByteArray, encStr k = .string s := ⟨_, rfl⟩
        rw [hs] at a0 d0
        have a0 := keep1 hbr la a0
        have a1 := keep1 hbr la a1
        have a2 := keep1 hbr la a2
        have d0 := keep1 hbr lb d0
        have d1 := keep1 hbr lb d1
        have d2 := keep1 hbr lb d2
        have hra := own_below ra hbr
        have hrb := own_below rb hbr
        obtain ⟨T, hT⟩ : ∃ T, T = txtB x.bs := ⟨_, rfl⟩
        have cv1 : ∀ o1 o2, (convert 27 9 (.slice p1 x.bs.length c1)).run Try.prog ((wr.alloc o1).alloc o2) = .ok (.string T) ((wr.alloc o1).alloc o2) := fun o1 o2 => by rw [hT]; exact conv_row (own_below (own_below hra (bal (Below.refl _ _) _)) (bal (Below.refl _ _) _))
        have cv2 : ∀ o1 o2, (convert 27 9 (.slice p2 x.bs.length c2)).run Try.prog ((wr.alloc o1).alloc o2) = .ok (.string T) ((wr.alloc o1).alloc o2) := fun o1 o2 => by rw [hT]; exact conv_row (own_below (own_below hrb (bal (Below.refl _ _) _)) (bal (Below.refl _ _) _))
        have la0 : ∀ o, (wr.alloc o).cell? ⟨gb, i * 3, none⟩ = some (.string s) := fun o => keep1 (bal (Below.refl wr.heap.size wr) o) (World.block_lt_of_cell? wr _ d0) d0
        have la1 : ∀ o, (wr.alloc o).cell? ⟨gb, i * 3 + 1, none⟩ = some (.slice p2 x.bs.length c2) := fun o => keep1 (bal (Below.refl wr.heap.size wr) o) (World.block_lt_of_cell? wr _ d1) d1
        have la2 : ∀ o, (wr.alloc o).cell? ⟨gb, i * 3 + 2, none⟩ = some (.int .i64 (x.sy : Int)) := fun o => keep1 (bal (Below.refl wr.heap.size wr) o) (World.block_lt_of_cell? wr _ d2) d2
        have l2a : ∀ o, (wr.alloc o).cell? ⟨w.heap.size + 1, 1, none⟩ = some (.slice (some ⟨gb, 0, none⟩) L cb) := fun o => keep1 (bal (Below.refl wr.heap.size wr) o) (World.block_lt_of_cell? wr _ l2) l2
        have i0 : (0 : Int) ≤ (i : Int) := by omega
        have i1 : (i : Int) < (L : Int) := by omega
        clear hbr ra rb hra hrb hT hkx d0 d1 d2 l2
        go_wp2_with fail
        exact ⟨⟨i + 1, by omega, by go_num, ((unhide HBR).alloc (unhide HBR).size _).alloc (by rw [World.size_alloc]; have := (unhide HBR).size; omega) _⟩, by simp [intOf]; omega⟩
      · have j1 : ¬ (i : Int) < (L : Int) := by omega
        clear hbr
        go_wp2_with fail
        go_ret
        exact ⟨rfl, (unhide HB1).trans ((unhide HBR).mono (by omega))⟩
end Go.Proofs.Ytpeohbkigkfcgaa
