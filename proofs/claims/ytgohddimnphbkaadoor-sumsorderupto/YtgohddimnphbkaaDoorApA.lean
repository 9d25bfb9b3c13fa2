/- sums: a view that is added to; frames. -/
import Derived.Test.YtgohddimnphbkaaDoorRoA
import Derived.Test.YtgohddimnphbkaaDoorUpA
import Derived.Test.YtgohddimnphbkaaDoorMnyB
namespace Go.Proofs.YtgohddimnphbkaaDoor
open Go Go.ChangeShapes Go.WideShapes Go.ChangeAt Go.RowKit Go.Maps
set_option linter.unusedVariables false
theorem MapAt.obj {E : TypeId} {w : World} {b n : Nat} {f : List UInt8 → Int} (h : MapAt E w (some b) n f) : ∃ es clock, w.heap[b]? = some (.map es clock) := by
  rcases h with ⟨h, _⟩ | ⟨b', D, e, hm, hs⟩
  · cases h
  · cases e
    obtain ⟨es, clock, hb, _⟩ := hm
    exact ⟨es, clock, hb⟩
section
variable {w w' : World} {d : Nat} {mo mr : Option Nat} {n : Nat} {f g : List UInt8 → Int} {a c : Int}
theorem SumsAt.kind (h : SumsAt w d mo mr n f g a c) {k : Nat} (hk : Blk d mo mr k) : k = d ∨ ∃ es clock, w.heap[k]? = some (.map es clock) := by
  rcases hk with rfl | rfl | rfl
  · exact .inl rfl
  · exact .inr h.own.obj
  · exact .inr h.rol.obj
theorem SumsAt.not_cell (h : SumsAt w d mo mr n f g a c) {q o : Nat} {v : Value} (hc : w.cell? ⟨q, o, none⟩ = some v) (hq : q ≠ d) : ¬ Blk d mo mr q := fun hk => by
  rcases h.kind hk with e | ⟨es, clock, e⟩
  · exact hq e
  · simp [World.cell?, e] at hc
theorem SumsAt.not_lpy (h : SumsAt w d mo mr n f g a c) {q : Nat} {o : Obj} (ho : w.heap[q]? = some o) (hl : lpy o = true) : ¬ Blk d mo mr q := fun hk => by
  rcases h.kind hk with e | ⟨es, clock, e⟩
  · subst e
    have hc := h.c0
    unfold World.cell? at hc
    simp only [ho] at hc
    cases o <;> simp_all [lpy]
  · rw [e] at ho
    cases ho
    simp [lpy] at hl
theorem SumsAt.mono (h : SumsAt w d mo mr n f g a c) {n' : Nat} (hn : n ≤ n') : SumsAt w d mo mr n' f g a c :=
  ⟨h.c0, h.c1, h.c2, h.c3, h.fz, h.own.mono hn, h.rol.mono hn, h.d0, h.d1, h.ab⟩
/-- what a call has changed: the view's own blocks alone -/
structure Stp (w w' : World) (d : Nat) (mo mr mo' mr' : Option Nat) : Prop where
  fr : Fr (Blk d mo mr) w w'
  new : ∀ k, Blk d mo' mr' k → Blk d mo mr k ∨ w.heap.size ≤ k
theorem AddOut.fr {s : ByteArray} {x : Int} {o b' : Nat} {e : Ending} (h : AddOut 2 s x d o mo n f w e w' b') {mr : Option Nat} : Fr (Blk d mo mr) w w' :=
  ⟨h.os, h.tape, h.output, h.size, fun k hk hb => h.old k hk (fun e => hb (.inr (.inl e.symm))) (fun _ e => hb (.inl e))⟩
theorem AddOut.fr' {s : ByteArray} {x : Int} {o b' : Nat} {e : Ending} (h : AddOut 2 s x d o mr n f w e w' b') {mo : Option Nat} : Fr (Blk d mo mr) w w' :=
  ⟨h.os, h.tape, h.output, h.size, fun k hk hb => h.old k hk (fun e => hb (.inr (.inr e.symm))) (fun _ e => hb (.inl e))⟩
theorem addOwn (h : SumsAt w d mo mr n f g a c) (hn : n < maxLen) {s : ByteArray} (hs : s.size ≤ maxLen) (x : Int) :
    Calls Tryd.prog 21 #[.pointer (some ⟨d, 0, none⟩), .string s, .int .i64 x] w fun e w' => (∃ r, e = .returned r) ∧ ∃ mo', SumsAt w' d mo' mr (n + 1) (upd f s.data.toList (IntKind.i64.wrap (f s.data.toList + x))) g a c ∧ Stp w w' d mo mr mo' mr := by
  refine (add_any s hs x d 0 n hn mo f w h.c0 (h.fz 0) h.own h.d0).mono ?_
  rintro e w' ⟨b', ho⟩
  have hlt := h.lt
  have hrk : ∀ b, mr = some b → w'.heap[b]? = w.heap[b]? := fun b hb => ho.old b (hlt b (.inr (.inr hb))) (fun e => h.ab b e.symm hb) (fun _ => (h.d1 b hb).symm)
  have hbd : d ≠ b' := by
    rcases ho.what with e | ⟨_, e⟩
    · exact h.d0 b' e
    · have := hlt d (.inl rfl); omega
  refine ⟨ho.ret, some b', ⟨ho.cell, (ho.cells 1 (by omega)).trans h.c1, (ho.cells 2 (by omega)).trans h.c2, (ho.cells 3 (by omega)).trans h.c3, fun j => (ho.frozen j).trans (h.fz j), ho.map, (h.rol.block hrk).mono (by omega), fun b e => by cases e; exact hbd, h.d1, fun b e e2 => ?_⟩, ho.fr, fun k hk => ?_⟩
  · cases e
    rcases ho.what with e3 | ⟨_, e3⟩
    · exact h.ab b' e3 e2
    · have := hlt b' (.inr (.inr e2)); omega
  · rcases hk with rfl | hk | hk
    · exact .inl (.inl rfl)
    · cases hk
      rcases ho.what with e | ⟨_, e⟩
      · exact .inl (.inr (.inl e))
      · exact .inr e
    · exact .inl (.inr (.inr hk))
theorem addRoll (h : SumsAt w d mo mr n f g a c) (hn : n < maxLen) {s : ByteArray} (hs : s.size ≤ maxLen) (x : Int) :
    Calls Tryd.prog 21 #[.pointer (some ⟨d, 1, none⟩), .string s, .int .i64 x] w fun e w' => (∃ r, e = .returned r) ∧ ∃ mr', SumsAt w' d mo mr' (n + 1) f (upd g s.data.toList (IntKind.i64.wrap (g s.data.toList + x))) a c ∧ Stp w w' d mo mr mo mr' := by
  refine (add_any s hs x d 1 n hn mr g w h.c1 (h.fz 1) h.rol h.d1).mono ?_
  rintro e w' ⟨b', ho⟩
  have hlt := h.lt
  have hrk : ∀ b, mo = some b → w'.heap[b]? = w.heap[b]? := fun b hb => ho.old b (hlt b (.inr (.inl hb))) (fun e => h.ab b hb e.symm) (fun _ => (h.d0 b hb).symm)
  have hbd : d ≠ b' := by
    rcases ho.what with e | ⟨_, e⟩
    · exact h.d1 b' e
    · have := hlt d (.inl rfl); omega
  refine ⟨ho.ret, some b', ⟨(ho.cells 0 (by omega)).trans h.c0, ho.cell, (ho.cells 2 (by omega)).trans h.c2, (ho.cells 3 (by omega)).trans h.c3, fun j => (ho.frozen j).trans (h.fz j), (h.own.block hrk).mono (by omega), ho.map, h.d0, fun b e => by cases e; exact hbd, fun b e e2 => ?_⟩, ho.fr', fun k hk => ?_⟩
  · cases e2
    rcases ho.what with e3 | ⟨_, e3⟩
    · exact h.ab b' e e3
    · have := hlt b' (.inr (.inl e)); omega
  · rcases hk with rfl | hk | hk
    · exact .inl (.inl rfl)
    · exact .inl (.inr (.inl hk))
    · cases hk
      rcases ho.what with e | ⟨_, e⟩
      · exact .inl (.inr (.inr e))
      · exact .inr e
end
/-- a view that has been worked on since w0 -/
def Va (w0 : World) (d : Nat) (m0 r0 : Option Nat) (n : Nat) (f g : List UInt8 → Int) (a c : Int) (wr : World) : Prop :=
  ∃ mo mr, SumsAt wr d mo mr n f g a c ∧ Fr (Blk d m0 r0) w0 wr ∧ ∀ k, Blk d mo mr k → Blk d m0 r0 k ∨ w0.heap.size ≤ k
section
variable {w0 W W' : World} {d : Nat} {m0 r0 : Option Nat} {n : Nat} {f g : List UInt8 → Int} {a c : Int}
theorem Va.start (h : SumsAt W d m0 r0 n f g a c) : Va W d m0 r0 n f g a c W := ⟨m0, r0, h, Fr.refl _ _, fun k hk => .inl hk⟩
/-- whatever leaves the blocks of the view alone -/
theorem Va.turn (h : Va w0 d m0 r0 n f g a c W) {row : Option Nat} (hg : W.grownBy W' row) (hr : ∀ r, row = some r → w0.heap.size ≤ r ∧ ∃ o, W.heap[r]? = some o ∧ lpy o = true) : Va w0 d m0 r0 n f g a c W' := by
  obtain ⟨mo, mr, h1, h2, h3⟩ := h
  refine ⟨mo, mr, h1.block (fun k hk => hg.block k (h1.lt k hk) (fun e => ?_)), ⟨hg.os.trans h2.os, hg.tape.trans h2.tape, hg.output.trans h2.output, Nat.le_trans h2.size hg.size, fun k hk hb => (hg.block k (Nat.lt_of_lt_of_le hk h2.size) (fun e => ?_)).trans (h2.block k hk hb)⟩, h3⟩
  · obtain ⟨_, o, ho, hl⟩ := hr k e.symm
    exact h1.not_lpy ho hl hk
  · obtain ⟨h4, _⟩ := hr k e.symm
    omega
theorem Va.below (h : Va w0 d m0 r0 n f g a c W) (hb : Below W.heap.size W W') : Va w0 d m0 r0 n f g a c W' :=
  h.turn (grown_of_below hb) (fun r e => by cases e)
theorem Va.step (h : Fr (Blk d m0 r0) w0 W) {mo mr mo' mr' : Option Nat} (h3 : ∀ k, Blk d mo mr k → Blk d m0 r0 k ∨ w0.heap.size ≤ k) {n' : Nat} {f' g' : List UInt8 → Int} {a' c' : Int} (hs : SumsAt W' d mo' mr' n' f' g' a' c') (hp : Stp W W' d mo mr mo' mr') : Va w0 d m0 r0 n' f' g' a' c' W' := by
  refine ⟨mo', mr', hs, h.trans hp.fr h3, fun k hk => ?_⟩
  rcases hp.new k hk with hk | hk
  · exact h3 k hk
  · exact .inr (Nat.le_trans h.size hk)
/-- what such a step leaves of cells and of a range's own blocks -/
theorem Stp.cell {mo mr mo' mr' : Option Nat} (hp : Stp W W' d mo mr mo' mr') (hs : SumsAt W d mo mr n f g a c) {q o : Nat} {v : Value} (hc : W.cell? ⟨q, o, none⟩ = some v) (hq : q ≠ d) : W'.cell? ⟨q, o, none⟩ = some v :=
  (World.cell?_of_block (a := ⟨q, o, none⟩) (hp.fr.block q (World.block_lt_of_cell? W _ hc) (hs.not_cell hc hq))).trans hc
theorem Stp.lpy {mo mr mo' mr' : Option Nat} (hp : Stp W W' d mo mr mo' mr') (hs : SumsAt W d mo mr n f g a c) : KeepsL W W' :=
  ⟨hp.fr.size, fun k o hk ho => (hp.fr.block k (Array.getElem?_eq_some_iff.1 hk).1 (hs.not_lpy hk ho)).trans hk⟩
end
end Go.Proofs.YtgohddimnphbkaaDoor
