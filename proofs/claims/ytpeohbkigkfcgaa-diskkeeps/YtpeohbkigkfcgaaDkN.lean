/- A file looked up in the map; the files that State hands out. -/
import Derived.Test.YtpeohbkigkfcgaaDkM
namespace Go.Proofs.Ytpeohbkigkfcgaa
open Go Go.Shelf Go.ChangeShapes Go.WideShapes Go.ChangeAt Go.RowKit Go.Maps Go.Sort
set_option linter.unusedVariables false
theorem get_at : ∀ {A : Fs} {j : Nat} {k : List UInt8} {x : Fl}, OrdF A → A[j]? = some (k, x) → getF k A = some x
  | [], j, k, x, _, h => by simp at h
  | a :: A, 0, k, x, _, h => by
    simp only [List.getElem?_cons_zero, Option.some.injEq] at h
    subst h
    simp [getF]
  | a :: A, j + 1, k, x, hO, h => by
    unfold OrdF at hO
    rw [List.pairwise_cons] at hO
    simp only [List.getElem?_cons_succ] at h
    have hm : (k, x) ∈ A := List.mem_of_getElem? h
    have hne : (a.1 == k) = false := by
      rw [beq_eq_false_iff_ne]
      intro e
      have := hO.1 _ hm
      rw [e] at this
      rw [Go.WideAt.bytes_irrefl] at this
      cases this
    have := get_at (A := A) hO.2 h
    unfold getF at this ⊢
    rw [List.find?_cons, hne]
    exact this
/-- a file of the disk, looked up by its name -/
theorem look_file {w : World} {d N n b : Nat} {K : Dk} {S : Nat → Prop} {es : List (Lit × DataW Value)} (h : DiskIs w d N K S (some b) n es) {s : ByteArray} (hs : s.size ≤ maxLen) {x : Fl} (hx : getF s.data.toList K.A = some x) :
    ∃ p c, (Instr.lookup 62 (.map (some b)) (.string s) false).run Try.prog w = .ok (.agg #[.slice p x.bs.length c, .int .i64 (x.sy : Int)]) w ∧ Hit w s K es p x.bs.length c (x.sy : Int) x := by
  have hm : w.ownsMap Try.prog 9 fileElem b n (.map es) := by
    rcases h.at'.files with ⟨h1, _⟩ | ⟨b', h1, h2⟩
    · cases h1
    · injection h1 with h1
      subst h1
      exact h2
  obtain ⟨v, ps, hrun, hv⟩ := hm.lookup (Maps.string_keyed Try.underlying9) Try.underlying62 (zero67 w) (zd := .held noFile) (zp := []) rfl (key9 hs)
  obtain ⟨e0, he0, ha, hf⟩ := at_tie h.fs.all hx (.held noFile)
  obtain ⟨f1, p, c, f2, f3⟩ := hf
  obtain ⟨p', m', c', y', rfl, hz⟩ := fileElem_inv hv
  have e2 := (congrArg Prod.fst hz).symm.trans (ha.trans f2)
  simp only [DataW.held.injEq, Value.agg.injEq] at e2
  have e3 := congrArg Array.toList e2
  simp only [List.cons.injEq, Value.slice.injEq, Value.int.injEq, true_and, and_true] at e3
  obtain ⟨⟨g1, g2, g3⟩, g4⟩ := e3
  subst g1 g2 g3 g4
  refine ⟨p', c', hrun, hx, rfl, rfl, ?_, f3⟩
  obtain ⟨e01, e02⟩ := e0
  simp only at f1 f2
  subst f1 f2
  exact he0
/-- the cells of files that were handed out, and their bytes: the blocks lie between b and e, rising -/
inductive StCells (W : World) : Nat → Nat → Fs → List Value → Prop
  | nil {b e : Nat} (h : b ≤ e) : StCells W b e [] []
  | cons {b m e : Nat} {k : List UInt8} {x : Fl} {p : Option Addr} {c : Nat} {A : Fs} {xs : List Value} (hr : W.ownsRow b 5 1 (.slice p x.bs.length c) x.bs.length (bcs x.bs)) (hl : ∀ q, (Value.slice p x.bs.length c).ownBlock = some q → q < m) (hb : b ≤ m) (hs : StCells W m e A xs) :
      StCells W b e ((k, x) :: A) (encStr k :: .slice p x.bs.length c :: .int .i64 (x.sy : Int) :: xs)
theorem StCells.le {W : World} {b e : Nat} {A : Fs} {xs : List Value} (h : StCells W b e A xs) : b ≤ e := by
  induction h with
  | nil h => exact h
  | cons _ _ h1 _ ih => exact Nat.le_trans h1 ih
theorem StCells.up {W : World} {b e e' : Nat} {A : Fs} {xs : List Value} (h : StCells W b e A xs) (he : e ≤ e') : StCells W b e' A xs := by
  induction h with
  | nil h => exact .nil (Nat.le_trans h he)
  | cons hr hl hb _ ih => exact .cons hr hl hb (ih he)
theorem StCells.append {W : World} {b m e : Nat} {A A' : Fs} {xs ys : List Value} (h : StCells W b m A xs) (h' : StCells W m e A' ys) : StCells W b e (A ++ A') (xs ++ ys) := by
  induction h with
  | nil h =>
    cases h' with
    | nil h2 => exact .nil (Nat.le_trans h h2)
    | cons hr hl hb hs => exact .cons (row_base hr h) hl (Nat.le_trans h hb) hs
  | cons hr hl hb _ ih => exact .cons hr hl hb (ih h')
theorem StCells.len {W : World} {b e : Nat} {A : Fs} {xs : List Value} (h : StCells W b e A xs) : xs.length = A.length * 3 := by
  induction h with
  | nil _ => rfl
  | cons _ _ _ _ ih => simp only [List.length_cons, ih]; omega
/-- they stand where their blocks stand -/
theorem StCells.far {W W' : World} {b e : Nat} {A : Fs} {xs : List Value} (h : StCells W b e A xs) (hq : ∀ q, b ≤ q → q < e → (∃ cur, W.heap[q]? = some (.cells cur 5 (0, 0))) → W'.heap[q]? = W.heap[q]?) : StCells W' b e A xs := by
  induction h with
  | nil h => exact .nil h
  | cons hr hl hb hs ih =>
    refine .cons (row_far hr (fun q hq' => ?_)) hl hb (ih (fun q h1 h2 h3 => hq q (Nat.le_trans hb h1) h2 h3))
    rcases hr.2 with ⟨h1, _⟩ | ⟨g, cap, cur, h1, h2, h3, _⟩
    · rw [h1] at hq'; cases hq'
    · rw [h1] at hq'
      simp only [Value.ownBlock, Option.some.injEq] at hq'
      subst hq'
      exact hq g h2 (Nat.lt_of_lt_of_le (hl g (by rw [h1]; rfl)) hs.le) ⟨cur, h3⟩
theorem StCells.one {W : World} {b e : Nat} {A : Fs} {xs : List Value} (h : StCells W b e A xs) : ∀ u ∈ xs, u.oneCell' = true := by
  induction h with
  | nil _ => intro u hu; cases hu
  | cons _ _ _ _ ih =>
    intro u hu
    simp only [List.mem_cons] at hu
    rcases hu with rfl | rfl | rfl | hu
    · rfl
    · rfl
    · rfl
    · exact ih u hu
/-- a state's list of files -/
def FilesRow (W : World) (b e : Nat) (v : Value) (A : Fs) : Prop := ∃ xs, W.ownsRow b 70 3 v A.length xs ∧ StCells W b e A xs
end Go.Proofs.Ytpeohbkigkfcgaa
