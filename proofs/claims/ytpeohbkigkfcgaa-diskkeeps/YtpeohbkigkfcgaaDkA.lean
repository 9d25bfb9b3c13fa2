/- A disk's files as a list by rising name; what ties it to the map in memory. -/
import Derived.Test.YtpeohbkigkfcgaaDskF
namespace Go.Proofs.Ytpeohbkigkfcgaa
open Go Go.ChangeShapes Go.WideShapes Go.ChangeAt Go.RowKit
set_option linter.unusedVariables false
inductive All2 {α β : Type} (R : α → β → Prop) : List α → List β → Prop
  | nil : All2 R [] []
  | cons {a : α} {b : β} {l : List α} {m : List β} : R a b → All2 R l m → All2 R (a :: l) (b :: m)
/-- a file: its bytes, how many are synced -/
structure Fl where
  bs : List UInt8
  sy : Nat
abbrev Fs := List (List UInt8 × Fl)
def insF (x : List UInt8 × Fl) : Fs → Fs
  | [] => [x]
  | y :: r => if (Lit.string x.1).before (.string y.1) then x :: y :: r else y :: insF x r
def delF (k : List UInt8) (A : Fs) : Fs := A.filter fun p => !(p.1 == k)
def putF (k : List UInt8) (x : Fl) (A : Fs) : Fs := insF (k, x) (delF k A)
def getF (k : List UInt8) (A : Fs) : Option Fl := (A.find? fun p => p.1 == k).map (·.2)
/-- the block of a file's bytes -/
def blk : Lit × DataW Value → Option Nat
  | (_, .held (.agg xs)) => match xs.toList with
    | v :: _ => v.ownBlock
    | _ => none
  | _ => none
theorem blk_mk (k : Lit) (p : Option Addr) (n c : Nat) (y : Value) : blk (k, .held (.agg #[.slice p n c, y])) = (Value.slice p n c).ownBlock := rfl
/-- a file in memory -/
def FileAt (W : World) (e : Lit × DataW Value) (a : List UInt8 × Fl) : Prop :=
  e.1 = .string a.1 ∧ ∃ p c, e.2 = .held (.agg #[.slice p a.2.bs.length c, .int .i64 (a.2.sy : Int)]) ∧ W.ownsRow 0 5 1 (.slice p a.2.bs.length c) a.2.bs.length (bcs a.2.bs)
theorem FileAt.far {W W' : World} {e : Lit × DataW Value} {a : List UInt8 × Fl} (h : FileAt W e a) (hq : ∀ q, blk e = some q → W'.heap[q]? = W.heap[q]?) : FileAt W' e a := by
  obtain ⟨h1, p, c, h2, h3⟩ := h
  refine ⟨h1, p, c, h2, row_far h3 (fun q hq' => hq q ?_)⟩
  obtain ⟨e1, e2⟩ := e
  simp only at h2
  subst h2
  exact hq'
theorem FileAt.lt {W : World} {e : Lit × DataW Value} {a : List UInt8 × Fl} (h : FileAt W e a) {q : Nat} (hq : blk e = some q) : q < W.heap.size := by
  obtain ⟨h1, p, c, h2, h3⟩ := h
  obtain ⟨e1, e2⟩ := e
  simp only at h2
  subst h2
  exact (h3.lt q hq).2
structure FilesAt (W : World) (es : List (Lit × DataW Value)) (A : Fs) : Prop where
  all : All2 (FileAt W) es A
  apart : es.Pairwise fun x y => ∀ q, blk x = some q → blk y ≠ some q
theorem FilesAt.far {W W' : World} {es : List (Lit × DataW Value)} {A : Fs} (h : FilesAt W es A) (hq : ∀ e ∈ es, ∀ q, blk e = some q → W'.heap[q]? = W.heap[q]?) : FilesAt W' es A := by
  refine ⟨?_, h.apart⟩
  have := h.all
  clear h
  induction this with
  | nil => exact .nil
  | cons h1 _ ih => exact .cons (h1.far (hq _ (by simp))) (ih (fun e he => hq e (by simp [he])))
theorem string_same (a k : List UInt8) : (Lit.string a).sameKey (.string k) = (a == k) := rfl
theorem all_mem {W : World} {es : List (Lit × DataW Value)} {A : Fs} (h : All2 (FileAt W) es A) : ∀ e ∈ es, ∃ a ∈ A, FileAt W e a := by
  induction h with
  | nil => intro e he; cases he
  | cons h1 _ ih =>
    intro e he
    rcases List.mem_cons.1 he with rfl | he
    · exact ⟨_, by simp, h1⟩
    · obtain ⟨a, ha, h2⟩ := ih e he
      exact ⟨a, by simp [ha], h2⟩
theorem has_tie {W : World} {es : List (Lit × DataW Value)} {A : Fs} (h : All2 (FileAt W) es A) (k : List UInt8) : Maps.has (.map es) (.string k) = (getF k A).isSome := by
  rw [Maps.has_eq]
  induction h with
  | nil => rfl
  | cons h1 _ ih =>
    rename_i e a es A _
    rw [List.any_cons, ih, h1.1, string_same]
    unfold getF
    rw [List.find?_cons]
    cases hk : (a.1 == k) <;> simp
theorem atKey_cons (e : Lit × DataW Value) (es : List (Lit × DataW Value)) (k : Lit) (z : DataW Value) : (DataW.map (e :: es)).atKey k z = if e.1.sameKey k = true then e.2 else (DataW.map es).atKey k z := by
  unfold DataW.atKey
  simp only [List.find?_cons]
  cases e.1.sameKey k <;> simp
theorem at_tie {W : World} {es : List (Lit × DataW Value)} {A : Fs} (h : All2 (FileAt W) es A) {k : List UInt8} {x : Fl} (hg : getF k A = some x) (z : DataW Value) : ∃ e ∈ es, (DataW.map es).atKey (.string k) z = e.2 ∧ FileAt W e (k, x) := by
  induction h with
  | nil => cases hg
  | cons h1 hr ih =>
    rename_i e a es A
    unfold getF at hg
    rw [List.find?_cons] at hg
    rw [atKey_cons, h1.1, string_same]
    cases hk : (a.1 == k) with
    | true =>
      rw [hk] at hg
      simp only [Option.map_some, Option.some.injEq] at hg
      have hak : a.1 = k := by simpa using hk
      refine ⟨e, by simp, by simp, ?_⟩
      obtain ⟨a1, a2⟩ := a
      simp only at hg hak
      subst hg hak
      exact h1
    | false =>
      rw [hk] at hg
      obtain ⟨e', he', h2, h3⟩ := ih hg
      exact ⟨e', by simp [he'], by simpa using h2, h3⟩
theorem ins_tie {W : World} {es : List (Lit × DataW Value)} {A : Fs} (h : All2 (FileAt W) es A) {e : Lit × DataW Value} {a : List UInt8 × Fl} (he : FileAt W e a) : All2 (FileAt W) (DataW.insert e es) (insF a A) := by
  induction h with
  | nil => exact .cons he .nil
  | cons h1 hr ih =>
    unfold DataW.insert insF
    rw [he.1, h1.1]
    split
    · exact .cons he (.cons h1 hr)
    · exact .cons h1 ih
theorem del_tie {W : World} {es : List (Lit × DataW Value)} {A : Fs} (h : All2 (FileAt W) es A) (k : List UInt8) : All2 (FileAt W) (es.filter fun p => !p.1.sameKey (.string k)) (delF k A) := by
  unfold delF
  induction h with
  | nil => exact .nil
  | cons h1 hr ih =>
    rename_i e a es A
    rw [List.filter_cons, List.filter_cons, h1.1, string_same]
    cases hk : (a.1 == k)
    · exact .cons h1 ih
    · exact ih
theorem mem_insert {x : Lit × DataW Value} : ∀ {l : List (Lit × DataW Value)} {y : Lit × DataW Value}, y ∈ DataW.insert x l → y = x ∨ y ∈ l
  | [], y, h => by simp [DataW.insert] at h; exact .inl h
  | z :: r, y, h => by
    unfold DataW.insert at h
    split at h
    · rcases List.mem_cons.1 h with h | h
      · exact .inl h
      · exact .inr h
    · rcases List.mem_cons.1 h with h | h
      · exact .inr (by simp [h])
      · rcases mem_insert h with h | h
        · exact .inl h
        · exact .inr (by simp [h])
theorem apart_insert {x : Lit × DataW Value} : ∀ {l : List (Lit × DataW Value)}, l.Pairwise (fun x y => ∀ q, blk x = some q → blk y ≠ some q) → (∀ y ∈ l, ∀ q, blk y = some q → blk x ≠ some q) → (DataW.insert x l).Pairwise fun x y => ∀ q, blk x = some q → blk y ≠ some q
  | [], _, _ => by simp [DataW.insert]
  | z :: r, h, hx => by
    unfold DataW.insert
    rw [List.pairwise_cons] at h
    split
    · refine List.pairwise_cons.2 ⟨fun y hy q h1 h2 => hx y hy q h2 h1, List.pairwise_cons.2 h⟩
    · refine List.pairwise_cons.2 ⟨fun y hy q h1 => ?_, apart_insert h.2 (fun y hy => hx y (by simp [hy]))⟩
      rcases mem_insert hy with rfl | hy
      · exact hx z (by simp) q h1
      · exact h.1 y hy q h1
/-- a file put under its name -/
theorem FilesAt.put {W : World} {es : List (Lit × DataW Value)} {A : Fs} (h : FilesAt W es A) {k : List UInt8} {x : Fl} {v : Value} (hv : FileAt W (.string k, .held v) (k, x)) (ha : ∀ e ∈ es, e.1 ≠ .string k → ∀ q, blk e = some q → blk (.string k, .held v) ≠ some q) :
    FilesAt W (DataW.insert (.string k, .held v) (es.filter fun p => !p.1.sameKey (.string k))) (putF k x A) := by
  refine ⟨ins_tie (del_tie h.all k) hv, apart_insert (h.apart.filter _) (fun y hy q hq => ?_)⟩
  obtain ⟨h1, h2⟩ := List.mem_filter.1 hy
  refine ha y h1 (fun e => ?_) q hq
  rw [e, string_same] at h2
  simp at h2
theorem FilesAt.del {W : World} {es : List (Lit × DataW Value)} {A : Fs} (h : FilesAt W es A) (k : List UInt8) : FilesAt W (es.filter fun p => !p.1.sameKey (.string k)) (delF k A) :=
  ⟨del_tie h.all k, h.apart.filter _⟩
end Go.Proofs.Ytpeohbkigkfcgaa
