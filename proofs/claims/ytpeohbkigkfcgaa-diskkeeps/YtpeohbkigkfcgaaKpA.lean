/- The book of notes of DiskKeeps: find (18). -/
import Derived.Test.YtpeohbkigkfcgaaTwA
namespace Go.Proofs.Ytpeohbkigkfcgaa
open Go Go.Shelf Go.ChangeShapes Go.WideShapes Go.ChangeAt Go.RowKit Go.Maps Go.Sort
set_option linter.unusedVariables false
/-- the cells of notes: what each says -/
def NoteC (W : World) (U : Nat → Prop) (l : Fs) (xs : List Value) : Prop :=
  ∀ (i : Nat) (k : List UInt8) (x : Fl), l[i]? = some (k, x) → ∃ p c, xs[i * 3]? = some (encStr k) ∧ xs[i * 3 + 1]? = some (.slice p x.bs.length c) ∧ xs[i * 3 + 2]? = some (.int .i64 (x.sy : Int)) ∧ W.ownsRow 0 5 1 (.slice p x.bs.length c) x.bs.length (bcs x.bs) ∧ ∀ q, (Value.slice p x.bs.length c).ownBlock = some q → U q
structure BookIs (W : World) (U : Nat → Prop) (v : Value) (l : Fs) (xs : List Value) : Prop where
  row : W.ownsRow 0 77 3 v l.length xs
  cs : NoteC W U l xs
  own : ∀ q, v.ownBlock = some q → U q
  lt : ∀ q, U q → q < W.heap.size
def BookAt (W : World) (U : Nat → Prop) (v : Value) (l : Fs) : Prop := ∃ xs, BookIs W U v l xs
theorem BookIs.far {W W' : World} {U : Nat → Prop} {v : Value} {l : Fs} {xs : List Value} (h : BookIs W U v l xs) (hq : ∀ q, U q → W'.heap[q]? = W.heap[q]?) (hz : W.heap.size ≤ W'.heap.size) : BookIs W' U v l xs :=
  ⟨row_far h.row (fun q hq' => hq q (h.own q hq')), fun i k x hi => by
    obtain ⟨p, c, h1, h2, h3, h4, h5⟩ := h.cs i k x hi
    exact ⟨p, c, h1, h2, h3, row_far h4 (fun q hq' => hq q (h5 q hq')), h5⟩, h.own, fun q hq' => Nat.lt_of_lt_of_le (h.lt q hq') hz⟩
theorem BookAt.far {W W' : World} {U : Nat → Prop} {v : Value} {l : Fs} (h : BookAt W U v l) (hq : ∀ q, U q → W'.heap[q]? = W.heap[q]?) (hz : W.heap.size ≤ W'.heap.size) : BookAt W' U v l := by
  obtain ⟨xs, h⟩ := h
  exact ⟨xs, h.far hq hz⟩
theorem BookAt.lt {W : World} {U : Nat → Prop} {v : Value} {l : Fs} (h : BookAt W U v l) : ∀ q, U q → q < W.heap.size := by
  obtain ⟨xs, h⟩ := h
  exact h.lt
theorem BookAt.below {W W' : World} {U : Nat → Prop} {v : Value} {l : Fs} (h : BookAt W U v l) (hb : Below W.heap.size W W') : BookAt W' U v l := h.far (fun q hq => hb.block q (h.lt q hq)) hb.size
theorem BookAt.sep {W W' : World} {U S S' : Nat → Prop} {v : Value} {l : Fs} (h : BookAt W U v l) (hs : Sep W W' S S') (hd : ∀ q, U q → ¬ S q) : BookAt W' U v l := h.far (fun q hq => hs.block q (h.lt q hq) (hd q hq)) hs.size
theorem BookAt.form {W : World} {U : Nat → Prop} {v : Value} {l : Fs} (h : BookAt W U v l) : ∃ p c, v = .slice p l.length c := by
  obtain ⟨xs, h⟩ := h
  rcases h.row.2 with ⟨h1, h2⟩ | ⟨g, cap, cur, h1, _⟩
  · exact ⟨none, 0, by rw [h1, h2]⟩
  · exact ⟨_, _, h1⟩
/-- a note in memory -/
theorem BookAt.at {W : World} {U : Nat → Prop} {v : Value} {l : Fs} (h : BookAt W U v l) {i : Nat} {k : List UInt8} {x : Fl} (hi : l[i]? = some (k, x)) : ∃ g cap p c, v = .slice (some ⟨g, 0, none⟩) l.length cap ∧ U g ∧ g < W.heap.size ∧ W.cell? ⟨g, i * 3, none⟩ = some (encStr k) ∧ W.cell? ⟨g, i * 3 + 1, none⟩ = some (.slice p x.bs.length c) ∧ W.cell? ⟨g, i * 3 + 2, none⟩ = some (.int .i64 (x.sy : Int)) ∧ (∀ j, W.frozen? ⟨g, j, none⟩ = false) ∧ W.ownsRow 0 5 1 (.slice p x.bs.length c) x.bs.length (bcs x.bs) ∧ (∀ q, (Value.slice p x.bs.length c).ownBlock = some q → U q) := by
  obtain ⟨xs, h⟩ := h
  obtain ⟨p, c, h1, h2, h3, h4, h5⟩ := h.cs i k x hi
  have hpos : 0 < l.length := by
    rw [List.getElem?_eq_some_iff] at hi
    obtain ⟨hi, _⟩ := hi
    omega
  obtain ⟨g, cap, rfl⟩ := own_open h.row hpos
  have hfz : ∀ j, W.frozen? ⟨g, j, none⟩ = false := fun j => by
    rcases h.row.2 with ⟨h6, _⟩ | ⟨g', cap', cur, h6, _, h7, _⟩
    · cases h6
    · injection h6 with h6
      injection h6 with h6
      injection h6 with h6
      subst h6
      exact frozen_of_own h7 _
  refine ⟨g, cap, p, c, rfl, h.own g rfl, (h.row.lt g rfl).2, ?_, ?_, ?_, hfz, h4, h5⟩
  · have := h.row.cells (g := g) rfl _ _ h1
    rw [Addr.add_mid, Nat.zero_add] at this
    exact this
  · have := h.row.cells (g := g) rfl _ _ h2
    rw [Addr.add_mid, Nat.zero_add] at this
    exact this
  · have := h.row.cells (g := g) rfl _ _ h3
    rw [Addr.add_mid, Nat.zero_add] at this
    exact this
/-- the place of a name, from some place on -/
def idxF (k : List UInt8) : Fs → Nat → Int
  | [], _ => -1
  | p :: l, i => if p.1 = k then (i : Int) else idxF k l (i + 1)
theorem idx_step {k : List UInt8} {l : Fs} {i : Nat} {p : List UInt8 × Fl} (h : l[i]? = some p) (hne : p.1 ≠ k) : idxF k (l.drop (i + 1)) (i + 1) = idxF k (l.drop i) i := by
  have hi : i < l.length := (List.getElem?_eq_some_iff.1 h).1
  rw [List.drop_eq_getElem_cons hi]
  have hp : l[i] = p := (List.getElem?_eq_some_iff.1 h).2
  rw [hp]
  rw [idxF, if_neg hne]
theorem idx_hit {k : List UInt8} {l : Fs} {i : Nat} {p : List UInt8 × Fl} (h : l[i]? = some p) (he : p.1 = k) : idxF k (l.drop i) i = (i : Int) := by
  have hi : i < l.length := (List.getElem?_eq_some_iff.1 h).1
  rw [List.drop_eq_getElem_cons hi]
  have hp : l[i] = p := (List.getElem?_eq_some_iff.1 h).2
  rw [hp]
  rw [idxF, if_pos he]
set_option maxRecDepth 100000 in
set_option maxHeartbeats 4000000 in
theorem find18_ok {w : World} {U : Nat → Prop} {v : Value} {l : Fs} (h : BookAt w U v l) (hl : l.length ≤ 100) (s : ByteArray) :
    Calls Try.prog 18 #[v, .string s] w fun e w' => e = .returned (.int .i64 (idxF s.data.toList l 0)) ∧ w' = w := by
  obtain ⟨pa, ca, rfl⟩ := h.form
  obtain ⟨L, hL⟩ : ∃ L, L = l.length := ⟨_, rfl⟩
  have HA := hide h
  rw [← hL] at hl HA ⊢
  have HL := hide hL
  clear hL h
  go_enter Try.func18, Try.ntmps18
  go_wp2_with fail
  go_loopw [5] (fun u wr => ∃ i : Nat, i ≤ L ∧ u = .int .i64 (i : Int) ∧ wr = w ∧ idxF s.data.toList (l.drop i) i = idxF s.data.toList l 0) (fun u _ => L - (intOf u).toNat)
  case atStart => exact ⟨0, Nat.zero_le _, rfl, rfl, by rw [List.drop_zero]⟩
  case round =>
    obtain ⟨i, hi, rfl, rfl, hidx⟩ := hrel
    have HIX := hide hidx
    by_cases hlt : i < L
    · have hkx : ∃ k x, l[i]? = some (k, x) := by
        have : i < l.length := by rw [← unhide HL]; exact hlt
        exact ⟨_, _, List.getElem?_eq_getElem this⟩
      obtain ⟨k, x, hkx⟩ := hkx
      obtain ⟨g, ca', p, c, ev, _, hg, a0, _⟩ := (unhide HA).at hkx
      injection ev with ev eL ev3
      subst ev ev3
      clear eL
      have i0 : (0 : Int) ≤ (i : Int) := by omega
      have i1 : (i : Int) < (L : Int) := by omega
      by_cases hk : k = s.data.toList
      · have hss : (k == s.toList) = true := by rw [ByteArray.toList_eq, hk]; simp
        have hres := idx_hit hkx hk
        rw [unhide HIX] at hres
        have HR := hide hres
        clear hidx hk hres hkx
        go_wp2_with fail
        go_ret
        rw [unhide HR]
        exact ⟨rfl, rfl⟩
      · have hss : (k == s.toList) = false := by
          rw [ByteArray.toList_eq]
          simpa using hk
        have hres := idx_step hkx hk
        rw [unhide HIX] at hres
        have HR := hide hres
        clear hidx hk hres hkx
        go_wp2_with fail
        exact ⟨⟨i + 1, by omega, by go_num, trivial, unhide HR⟩, by simp [intOf]; omega⟩
    · have j1 : ¬ (i : Int) < (L : Int) := by omega
      have hd : l.drop i = [] := List.drop_eq_nil_of_le (by rw [← unhide HL]; omega)
      rw [hd] at hidx
      have HR : Hid (idxF s.data.toList l 0 = -1) := hidx.symm
      clear hidx hd
      go_wp2_with fail
      go_ret
      rw [unhide HR]
      exact ⟨rfl, rfl⟩
end Go.Proofs.Ytpeohbkigkfcgaa
