/- The keeper's book: a list more, kept (27) or written over (28). -/
import Derived.Test.YthiiommpeaejaaaGreatDoorPtxN
import Derived.Test.YthiiommpeaejaaaGreatDoorPtxF
import Derived.Test.YthiiommpeaejaaaGreatDoorPtxG
import Derived.Test.YthiiommpeaejaaaGreatDoorPtxI
namespace Go.Proofs.YthiiommpeaejaaaGreatDoor
open Go Go.ChangeShapes Go.WideShapes Go.ChangeAt Go.RowKit
set_option linter.unusedVariables false
/-- a list that may be put into a book: of its own, apart from the book's -/
structure Mine (w : World) (bk m : Nat) (R : Value) (p : Nat → Pg) (L : Value) (n : Nat) (f : Nat → ByteArray) : Prop where
  own : w.ownsRow 0 9 1 L n (scells f n)
  le : n ≤ 4096
  pos : L = .slice none 0 0 ∨ 0 < n
  apart : ∀ q, L.ownBlock = some q → q ≠ bk ∧ R.ownBlock ≠ some q ∧ ∀ i, i < m → ¬ (p i).has q
  l3 : L.ownBlock ≠ some 3
/-- a book with a list more -/
def More (w w' : World) (bk m k : Nat) (R : Value) (p : Nat → Pg) (L : Value) (s : Nat) : Prop :=
  ∃ R' P, P.s = s ∧ BookAt w' bk (m + 1) (k + 1) R' (upd p m P) ∧ (∀ q, P.has q → L.ownBlock = some q ∨ w.heap.size ≤ q) ∧ (∀ q, R'.ownBlock = some q → R.ownBlock = some q ∨ w.heap.size ≤ q) ∧
    w.heap.size ≤ w'.heap.size ∧ w'.os = w.os ∧ w'.tape = w.tape ∧ w'.output = w.output ∧ ∀ q, q < w.heap.size → q ≠ bk → R.ownBlock ≠ some q → L.ownBlock ≠ some q → w'.heap[q]? = w.heap[q]?
theorem more_keep {w w' : World} {bk m k n : Nat} {R L : Value} {p : Nat → Pg} {f : Nat → ByteArray} (h : BookAt w bk m k R p) (hL : Mine w bk m R p L n f) (hk : k < 900) (ho : KeepOut w bk k m 0 L n f R (pages p m) w') : More w w' bk m k R p L 0 := by
  obtain ⟨g6, c6, gw, cw, c0, c1, hrow, hW, n1, n2, n3, ci, cf, hz, os, tp, ou, hblk⟩ := ho
  have hbk := h.lt
  have hgw := hW.lt gw rfl
  have hLl : ∀ q, L.ownBlock = some q → q < w.heap.size := fun q hq => (hL.own.lt q hq).2
  have hRl : ∀ q, R.ownBlock = some q → q < w.heap.size := fun q hq => (h.row.lt q hq).2
  have hhas : ∀ q, (⟨L, n, .slice none 0 0, .slice (some ⟨gw, 0, none⟩) n cw, k + 1, 0, f⟩ : Pg).has q → L.ownBlock = some q ∨ q = gw := by
    intro q hq
    rcases hq with hq | hq | hq
    · exact .inl hq
    · cases hq
    · injection hq with hq; exact .inr hq.symm
  have hg6 : ∀ q, L.ownBlock = some q → g6 ≠ q := by
    intro q hq e
    subst e
    rcases n3 with h' | h'
    · exact (hL.apart g6 hq).2.1 h'.symm
    · have := hLl g6 hq; omega
  refine ⟨_, ⟨L, n, .slice none 0 0, .slice (some ⟨gw, 0, none⟩) n cw, k + 1, 0, f⟩, rfl, h.push (by rw [c0]; simp) c1 ci cf ?_ ?_ ?_ hz ?_ ?_ (hblk 3 h.tab.lt (fun e => h.b3 e.symm) h.r3) (fun h' => (hhas 3 h').elim hL.l3 (fun e => by have := h.tab.lt; omega)), ?_, ?_, hz, os, tp, ou, fun q h1 h2 h3 _ => hblk q h1 h2 h3⟩
  · have e : (⟨L, n, .slice none 0 0, .slice (some ⟨gw, 0, none⟩) n cw, k + 1, 0, f⟩ : Pg).cells = [L, .slice none 0 0, .slice (some ⟨gw, 0, none⟩) n cw, .int .i64 ((k : Int) + 1), .bool false] := by simp [Pg.cells]
    rw [e]
    exact hrow
  · intro q hq
    injection hq with hq
    have hq : g6 = q := hq
    subst hq
    refine ⟨n1, fun hh => ?_, n3.imp Eq.symm id⟩
    rcases hhas g6 hh with h' | h'
    · exact hg6 g6 h' rfl
    · exact n2 h'
  · refine ⟨hL.le, by show k + 1 < 1000; omega, fun _ => ⟨?_, rfl, hW.mono (Nat.zero_le _), fun q hq e => ?_, gw, cw, rfl⟩, fun e => by simp at e, fun e => by simp at e, by simp⟩
    · exact row_far hL.own (fun q hq => hblk q (hLl q hq) (hL.apart q hq).1 (hL.apart q hq).2.1)
    · injection e with e
      have e : gw = q := e
      have := hLl q hq
      omega
  · intro i hi q hq
    exact hblk q (h.far i hi q hq).2.2 (h.far i hi q hq).1 (h.far i hi q hq).2.1
  · intro q hq
    rcases hhas q hq with h' | h'
    · exact ⟨(hL.apart q h').1, by have := hLl q h'; omega, (hL.apart q h').2.2⟩
    · subst h'
      exact ⟨by omega, hgw.2, fun i hi hq => by have := (h.far i hi q hq).2.2; omega⟩
  · intro q hq
    exact (hhas q hq).imp id (fun e => by omega)
  · intro q hq
    injection hq with hq
    have hq : g6 = q := hq
    subst hq
    exact n3.imp Eq.symm id
theorem keep_book {w : World} {bk m k n : Nat} {R L : Value} {p : Nat → Pg} {f : Nat → ByteArray} (h : BookAt w bk m k R p) (hL : Mine w bk m R p L n f) (hk : k < 900) (hm : m < 96) :
    Calls Tryz.prog 17 #[.pointer (some ⟨bk, 0, none⟩), L] w fun e w' => e = .returned (.tuple #[]) ∧ More w w' bk m k R p L 0 := by
  obtain ⟨pa, pc, rfl, _⟩ := book_row h
  have hpb : ∀ q, (Value.slice pa m pc).ownBlock = some q → q ≠ bk := fun q hq e => h.rb (by rw [← e]; exact hq)
  rcases LShows.of_own hL.own with ⟨hn0, hL0⟩ | ⟨gb, cap, hL0, hgl, hc⟩
  · subst hL0 hn0
    refine (keep_none bk k 0 f hk w m pc pa (pages p m) (Nat.zero_le _) hm h.c0 h.c1 (h.fz 0) (h.fz 4) h.row hpb).mono ?_
    rintro e w' ⟨rfl, ho⟩
    exact ⟨rfl, more_keep h hL hk ho⟩
  · subst hL0
    have hn : 0 < n := hL.pos.resolve_left (fun e => by cases e)
    refine (keep_bytes bk k n cap gb 0 f hk hL.le hn w m pc pa (pages p m) (Nat.zero_le _) hm h.c0 h.c1 (h.fz 0) (h.fz 4) hgl hc h.row hpb).mono ?_
    rintro e w' ⟨rfl, ho⟩
    exact ⟨rfl, more_keep h hL hk ho⟩
theorem more_write {w w' : World} {bk m k n gb : Nat} {R L : Value} {p : Nat → Pg} {f : Nat → ByteArray} (h : BookAt w bk m k R p) (hL : Mine w bk m R p L n f) (hk : k < 900) (ho : WriteOut w bk k m 0 0 gb n L R (pages p m) w') (hgb : (n = 0 ∧ L = .slice none 0 0 ∧ gb = w.heap.size) ∨ ∃ cap, L = .slice (some ⟨gb, 0, none⟩) n cap ∧ gb < w.heap.size) : More w w' bk m k R p L 2 := by
  obtain ⟨g6, c6, v, c0, c1, hrow, hV, hlst, n1, n2, n3, n4, n5, n6, ci, cf, hz, os, tp, ou, hblk⟩ := ho
  have hbk := h.lt
  have hLl : ∀ q, L.ownBlock = some q → q < w.heap.size := fun q hq => (hL.own.lt q hq).2
  have hLg : ∀ q, L.ownBlock = some q → q = gb := by
    intro q hq
    rcases hgb with ⟨_, rfl, _⟩ | ⟨cap, rfl, _⟩
    · cases hq
    · injection hq with hq; exact hq.symm
  have hgL : ∀ q, q = gb → L.ownBlock = some q ∨ w.heap.size ≤ q := by
    rintro q rfl
    rcases hgb with ⟨_, rfl, h'⟩ | ⟨cap, rfl, _⟩
    · exact .inr (by omega)
    · exact .inl rfl
  have hvL : ∀ q, v.ownBlock = some q → L.ownBlock = some q ∨ w.heap.size ≤ q := by
    intro q hq
    rcases n5 with h' | h'
    · rw [h'] at hq
      injection hq with hq
      exact hgL q hq.symm
    · exact .inr (h' q hq)
  have hhas : ∀ q, (⟨L, n, v, .slice none 0 0, k + 1, 2, f⟩ : Pg).has q → L.ownBlock = some q ∨ w.heap.size ≤ q := by
    intro q hq
    rcases hq with hq | hq | hq
    · exact .inl hq
    · exact hvL q hq
    · cases hq
  refine ⟨_, ⟨L, n, v, .slice none 0 0, k + 1, 2, f⟩, rfl, h.push (by rw [c0]; simp) c1 ci cf ?_ ?_ ?_ hz ?_ ?_ (hblk 3 h.tab.lt (fun e => h.b3 e.symm) (fun e => by rcases hgL 3 e with h' | h'; exact hL.l3 h'; have := h.tab.lt; omega) h.r3) (fun h' => (hhas 3 h').elim hL.l3 (fun e => by have := h.tab.lt; omega)), hhas, ?_, hz, os, tp, ou, fun q h1 h2 h3 h4 => hblk q h1 h2 (fun e => by rcases hgL q e with h' | h'; exact h4 h'; omega) h3⟩
  · have e : (⟨L, n, v, .slice none 0 0, k + 1, 2, f⟩ : Pg).cells = [L, v, .slice none 0 0, .int .i64 ((k : Int) + 1), .bool true] := by simp [Pg.cells]
    rw [e]
    exact hrow
  · intro q hq
    injection hq with hq
    have hq : g6 = q := hq
    subst hq
    refine ⟨n1, fun hh => ?_, n6.imp Eq.symm id⟩
    rcases hh with hh | hh | hh
    · exact n2 (hLg g6 hh)
    · exact n3 hh
    · cases hh
  · refine ⟨hL.le, by show k + 1 < 1000; omega, fun e => by simp at e, fun e => by simp at e, fun _ => ⟨?_, hV⟩, by simp⟩
    rcases hgb with ⟨h1, h2, _⟩ | ⟨cap, h1, h2⟩
    · exact .inl ⟨h1, h2⟩
    · exact .inr ⟨gb, cap, h1, by omega, hlst⟩
  · intro i hi q hq
    have hf := h.far i hi q hq
    exact hblk q hf.2.2 hf.1 (fun e => by rcases hgL q e with h' | h'; exact (hL.apart q h').2.2 i hi hq; omega) hf.2.1
  · intro q hq
    rcases hhas q hq with h' | h'
    · exact ⟨(hL.apart q h').1, by have := hLl q h'; omega, (hL.apart q h').2.2⟩
    · refine ⟨by omega, ?_, fun i hi hq => by have := (h.far i hi q hq).2.2; omega⟩
      rcases hq with hq | hq | hq
      · have := hLl q hq; omega
      · exact (hV.lt q hq).2
      · cases hq
  · intro q hq
    injection hq with hq
    have hq : g6 = q := hq
    subst hq
    exact n6.imp Eq.symm id
theorem write_book {w : World} {bk m k n : Nat} {R L : Value} {p : Nat → Pg} {f : Nat → ByteArray} (h : BookAt w bk m k R p) (hL : Mine w bk m R p L n f) (hk : k < 900) (hm : m < 96) :
    Calls Tryz.prog 18 #[.pointer (some ⟨bk, 0, none⟩), L] w fun e w' => e = .returned (.tuple #[]) ∧ More w w' bk m k R p L 2 := by
  obtain ⟨pa, pc, rfl, _⟩ := book_row h
  have hpb : ∀ q, (Value.slice pa m pc).ownBlock = some q → q ≠ bk := fun q hq e => h.rb (by rw [← e]; exact hq)
  rcases LShows.of_own hL.own with ⟨hn0, hL0⟩ | ⟨gb, cap, hL0, hgl, hc⟩
  · subst hL0 hn0
    refine (write_none bk k 0 0 hk w m pc pa (pages p m) (Nat.zero_le _) (Nat.zero_le _) hm h.c0 h.c1 (h.fz 0) (h.fz 4) h.tab h.b3 h.row hpb).mono ?_
    rintro e w' ⟨rfl, ho⟩
    exact ⟨rfl, more_write h hL hk ho (.inl ⟨rfl, rfl, rfl⟩)⟩
  · subst hL0
    have hap := hL.apart gb rfl
    refine (write_some bk k n cap gb 0 0 f hk hL.le w m pc pa (pages p m) (Nat.zero_le _) (Nat.zero_le _) hm h.c0 h.c1 (h.fz 0) (h.fz 4) h.tab ⟨h.b3, fun e => hL.l3 (by rw [← e]; rfl)⟩ hgl hap.1 hL.own (fun j _ => hL.own.frozenAt j) h.row (fun q hq => ⟨hpb q hq, fun e => hap.2.1 (by rw [← e]; exact hq)⟩)).mono ?_
    rintro e w' ⟨rfl, ho⟩
    exact ⟨rfl, more_write h hL hk ho (.inr ⟨cap, rfl, hgl⟩)⟩
/-- an empty book -/
theorem book_new {w : World} {bk : Nat} (p : Nat → Pg) (hP : Pw w) (h3 : bk ≠ 3) (c0 : w.cell? ⟨bk, 0, none⟩ = some (.int .i64 0)) (ci : ∀ j, 1 ≤ j → j ≤ 20 → w.cell? ⟨bk, j, none⟩ = some (.slice none 0 0)) (fz : ∀ i, w.frozen? ⟨bk, i, none⟩ = false) : BookAt w bk 0 0 (.slice none 0 0) p :=
  ⟨c0, ci 4 (by omega) (by omega), fun j h1 h2 h4 => ci j h1 h2, fz, World.ownsRow_nil _ _ _ _, by simp [Value.ownBlock], fun i hi => by omega, fun i hi => by omega, fun i j hi => by omega, hP, h3, by simp [Value.ownBlock], fun i hi => by omega⟩
/-- a list stays one that may be put in where its block stays and the book took another one -/
theorem Mine.next {w w' : World} {bk m k n n' s : Nat} {R L L' : Value} {p : Nat → Pg} {f : Nat → ByteArray} (hL : Mine w bk m R p L n f) (hne : ∀ q, L.ownBlock = some q → L'.ownBlock ≠ some q) (hm : More w w' bk m k R p L' s) : ∀ R' P, (∀ q, P.has q → L'.ownBlock = some q ∨ w.heap.size ≤ q) → (∀ q, R'.ownBlock = some q → R.ownBlock = some q ∨ w.heap.size ≤ q) → Mine w' bk (m + 1) R' (upd p m P) L n f := by
  intro R' P hP hR
  obtain ⟨_, _, _, _, _, _, hz, _, _, _, hblk⟩ := hm
  have hLl : ∀ q, L.ownBlock = some q → q < w.heap.size := fun q hq => (hL.own.lt q hq).2
  refine ⟨row_far hL.own (fun q hq => hblk q (hLl q hq) (hL.apart q hq).1 (hL.apart q hq).2.1 (hne q hq)), hL.le, hL.pos, fun q hq => ⟨(hL.apart q hq).1, fun e => ?_, fun i hi hh => ?_⟩, hL.l3⟩
  · rcases hR q e with h' | h'
    · exact (hL.apart q hq).2.1 h'
    · have := hLl q hq; omega
  · by_cases e : i = m
    · subst e
      rw [upd_same] at hh
      rcases hP q hh with h' | h'
      · exact hne q hq h'
      · have := hLl q hq; omega
    · rw [upd_other _ _ _ _ e] at hh
      exact (hL.apart q hq).2.2 i (by omega) hh
end Go.Proofs.YthiiommpeaejaaaGreatDoor
