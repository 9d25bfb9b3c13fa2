/- The book of notes: a cell of a note written. -/
import Derived.Test.YtpeohbkigkfcgaaKpB
namespace Go.Proofs.Ytpeohbkigkfcgaa
open Go Go.Shelf Go.ChangeShapes Go.WideShapes Go.ChangeAt Go.RowKit Go.Maps Go.Sort
set_option linter.unusedVariables false
theorem row_set {w : World} {g n cap size : Nat} {e : TypeId} {xs : List Value} (h : w.ownsRow 0 e size (.slice (some ⟨g, 0, none⟩) n cap) n xs) (j : Nat) (u : Value) : (w.setCell ⟨g, j, none⟩ u).ownsRow 0 e size (.slice (some ⟨g, 0, none⟩) n cap) n (xs.set j u) := by
  refine ⟨by rw [List.length_set]; exact h.1, ?_⟩
  rcases h.2 with ⟨h1, _⟩ | ⟨g', cap', cur, h1, _, h2, h3, h4, h5, h6⟩
  · cases h1
  · injection h1 with h1 _ h1c
    injection h1 with h1
    injection h1 with h1
    subst h1 h1c
    refine .inr ⟨g, cap, _, rfl, Nat.zero_le _, Go.heap_setCell_same w g j cur e u h2, h3, h4, ?_, ?_⟩
    · simpa using h5
    · rw [← h6]
      simp [List.take_set]
/-- other cells for one note -/
theorem NoteC.set {W : World} {U : Nat → Prop} {l : Fs} {xs xs' : List Value} (h : NoteC W U l xs) {i : Nat} (k' : List UInt8) (x' : Fl) {p : Option Addr} {c : Nat} (h0 : xs'[i * 3]? = some (encStr k')) (h1 : xs'[i * 3 + 1]? = some (.slice p x'.bs.length c)) (h2 : xs'[i * 3 + 2]? = some (.int .i64 (x'.sy : Int))) (ho : ∀ j, j / 3 ≠ i → xs'[j]? = xs[j]?)
    (hr : W.ownsRow 0 5 1 (.slice p x'.bs.length c) x'.bs.length (bcs x'.bs)) (hU : ∀ q, (Value.slice p x'.bs.length c).ownBlock = some q → U q) : NoteC W U (l.set i (k', x')) xs' := by
  intro j k x hj
  rw [List.getElem?_set] at hj
  by_cases e : i = j
  · subst e
    rw [if_pos rfl] at hj
    split at hj
    · have hj := Option.some.inj hj
      injection hj with e1 e2
      subst e1 e2
      exact ⟨p, c, h0, h1, h2, hr, hU⟩
    · cases hj
  · rw [if_neg e] at hj
    obtain ⟨p1, c1, a0, a1, a2, a3⟩ := h j k x hj
    refine ⟨p1, c1, ?_, ?_, ?_, a3⟩
    · rw [ho _ (by omega)]; exact a0
    · rw [ho _ (by omega)]; exact a1
    · rw [ho _ (by omega)]; exact a2
theorem NoteC.keep {W W' : World} {U : Nat → Prop} {l : Fs} {xs : List Value} (h : NoteC W U l xs) (hk : ∀ (p1 : Option Addr) (m1 c1 : Nat) (bs : List UInt8), W.ownsRow 0 5 1 (.slice p1 m1 c1) m1 (bcs bs) → W'.ownsRow 0 5 1 (.slice p1 m1 c1) m1 (bcs bs)) : NoteC W' U l xs := fun i k x hi => by
  obtain ⟨p, c, h1, h2, h3, h4, h5⟩ := h i k x hi
  exact ⟨p, c, h1, h2, h3, hk _ _ _ _ h4, h5⟩
theorem cell_keep {W : World} {g n cap : Nat} {xs : List Value} (hrow : W.ownsRow 0 77 3 (.slice (some ⟨g, 0, none⟩) n cap) n xs) (j : Nat) (u : Value) : ∀ (p1 : Option Addr) (m1 c1 : Nat) (bs : List UInt8), W.ownsRow 0 5 1 (.slice p1 m1 c1) m1 (bcs bs) → (W.setCell ⟨g, j, none⟩ u).ownsRow 0 5 1 (.slice p1 m1 c1) m1 (bcs bs) := fun p1 m1 c1 bs h => row_far h (fun q hq => Below.heap_setCell _ ⟨g, j, none⟩ _ q (fun e => rows_apart h hrow (by decide) hq (by show some g = some q; rw [e])))
section
variable {W : World} {U : Nat → Prop} {l : Fs} {g cap i : Nat} {k : List UInt8} {x : Fl}
theorem lens {xs : List Value} (h : xs.length = l.length * 3) (hi : l[i]? = some (k, x)) : i * 3 + 2 < xs.length := by
  have := (List.getElem?_eq_some_iff.1 hi).1
  omega
/-- other bytes for a note -/
theorem BookAt.data (h : BookAt W U (.slice (some ⟨g, 0, none⟩) l.length cap) l) (hi : l[i]? = some (k, x)) {p : Option Addr} {c : Nat} {bs : List UInt8} (hr : W.ownsRow 0 5 1 (.slice p bs.length c) bs.length (bcs bs)) {U' : Nat → Prop} (hU : ∀ q, U q → U' q) (hp : ∀ q, (Value.slice p bs.length c).ownBlock = some q → U' q) (hl : ∀ q, U' q → q < W.heap.size) : BookAt (W.setCell ⟨g, i * 3 + 1, none⟩ (.slice p bs.length c)) U' (.slice (some ⟨g, 0, none⟩) l.length cap) (l.set i (k, ⟨bs, x.sy⟩)) := by
  obtain ⟨xs, h⟩ := h.mono hU hl
  have hlen := lens h.row.1 hi
  obtain ⟨p0, c0, a0, a1, a2, _⟩ := h.cs i k x hi
  refine ⟨xs.set (i * 3 + 1) (.slice p bs.length c), by rw [List.length_set]; exact row_set h.row _ _, ?_, h.own, fun q hq => by simpa using h.lt q hq⟩
  refine NoteC.set (h.cs.keep (cell_keep h.row _ _)) k ⟨bs, x.sy⟩ (p := p) (c := c) ?_ ?_ ?_ (fun j hj => ?_) (cell_keep h.row _ _ _ _ _ _ hr) hp
  · rw [List.getElem?_set_ne (by omega)]; exact a0
  · rw [List.getElem?_set_self (by omega)]
  · rw [List.getElem?_set_ne (by omega)]; exact a2
  · rw [List.getElem?_set_ne (by omega)]
/-- another number of synced bytes -/
theorem BookAt.sync (h : BookAt W U (.slice (some ⟨g, 0, none⟩) l.length cap) l) (hi : l[i]? = some (k, x)) (m : Nat) : BookAt (W.setCell ⟨g, i * 3 + 2, none⟩ (.int .i64 (m : Int))) U (.slice (some ⟨g, 0, none⟩) l.length cap) (l.set i (k, ⟨x.bs, m⟩)) := by
  obtain ⟨xs, h⟩ := h
  have hlen := lens h.row.1 hi
  obtain ⟨p0, c0, a0, a1, a2, a3, a4⟩ := h.cs i k x hi
  refine ⟨xs.set (i * 3 + 2) (.int .i64 (m : Int)), by rw [List.length_set]; exact row_set h.row _ _, ?_, h.own, fun q hq => by simpa using h.lt q hq⟩
  refine NoteC.set (h.cs.keep (cell_keep h.row _ _)) k ⟨x.bs, m⟩ (p := p0) (c := c0) ?_ ?_ ?_ (fun j hj => ?_) (cell_keep h.row _ _ _ _ _ _ a3) a4
  · rw [List.getElem?_set_ne (by omega)]; exact a0
  · rw [List.getElem?_set_ne (by omega)]; exact a1
  · rw [List.getElem?_set_self (by omega)]
  · rw [List.getElem?_set_ne (by omega)]
/-- another name -/
theorem BookAt.name (h : BookAt W U (.slice (some ⟨g, 0, none⟩) l.length cap) l) (hi : l[i]? = some (k, x)) (k' : List UInt8) : BookAt (W.setCell ⟨g, i * 3, none⟩ (encStr k')) U (.slice (some ⟨g, 0, none⟩) l.length cap) (l.set i (k', x)) := by
  obtain ⟨xs, h⟩ := h
  have hlen := lens h.row.1 hi
  obtain ⟨p0, c0, a0, a1, a2, a3, a4⟩ := h.cs i k x hi
  refine ⟨xs.set (i * 3) (encStr k'), by rw [List.length_set]; exact row_set h.row _ _, ?_, h.own, fun q hq => by simpa using h.lt q hq⟩
  refine NoteC.set (h.cs.keep (cell_keep h.row _ _)) k' x (p := p0) (c := c0) ?_ ?_ ?_ (fun j hj => ?_) (cell_keep h.row _ _ _ _ _ _ a3) a4
  · rw [List.getElem?_set_self (by omega)]
  · rw [List.getElem?_set_ne (by omega)]; exact a1
  · rw [List.getElem?_set_ne (by omega)]; exact a2
  · rw [List.getElem?_set_ne (by omega)]
end
/-- where a name stands -/
theorem idx_of {k : List UInt8} : ∀ {l : Fs} {x : Fl} (m : Nat), (k, x) ∈ l → (l.map (·.1)).Nodup → ∃ i, l[i]? = some (k, x) ∧ idxF k l m = ((m + i : Nat) : Int)
  | [], _, _, h, _ => by cases h
  | p :: l, x, m, h, hn => by
    rw [List.map_cons, List.nodup_cons] at hn
    rcases List.mem_cons.1 h with e | h
    · subst e
      exact ⟨0, rfl, by rw [idxF, if_pos rfl]; rfl⟩
    · have hne : p.1 ≠ k := fun e => hn.1 (by rw [e]; exact List.mem_map.2 ⟨_, h, rfl⟩)
      obtain ⟨i, h1, h2⟩ := idx_of (m + 1) h hn.2
      exact ⟨i + 1, h1, by rw [idxF, if_neg hne, h2]; congr 1; omega⟩
theorem idx_none {k : List UInt8} : ∀ {l : Fs} (m : Nat), (∀ p ∈ l, p.1 ≠ k) → idxF k l m = -1
  | [], _, _ => rfl
  | p :: l, m, h => by rw [idxF, if_neg (h p (by simp))]; exact idx_none (m + 1) (fun q hq => h q (by simp [hq]))
end Go.Proofs.Ytpeohbkigkfcgaa
