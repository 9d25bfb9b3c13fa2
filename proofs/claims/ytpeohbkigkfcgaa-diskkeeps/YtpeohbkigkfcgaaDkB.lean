/- A disk in memory and what it is; put (37) and change (40) of it. -/
import Derived.Test.YtpeohbkigkfcgaaDkA
namespace Go.Proofs.Ytpeohbkigkfcgaa
open Go Go.ChangeShapes Go.WideShapes Go.ChangeAt Go.RowKit
set_option linter.unusedVariables false
/-- what a disk is -/
structure Dk where
  cap : Int
  A : Fs
  fuse : Int
  down : Bool
/-- a disk in memory: all its blocks are among S -/
structure DiskIs (W : World) (d N : Nat) (K : Dk) (S : Nat → Prop) (mo : Option Nat) (n : Nat) (es : List (Lit × DataW Value)) : Prop where
  at' : DiskAt W d K.cap mo K.fuse K.down n (.map es)
  fs : FilesAt W es K.A
  nle : n ≤ N
  mb : ∀ b, mo = some b → d ≠ b ∧ S b ∧ ∀ e ∈ es, blk e ≠ some b
  db : ∀ e ∈ es, blk e ≠ some d
  eb : ∀ e ∈ es, ∀ q, blk e = some q → S q
  fz : ∀ j, W.frozen? ⟨d, j, none⟩ = false
  sd : S d
  sl : ∀ q, S q → q < W.heap.size
def DiskOK (W : World) (d N : Nat) (K : Dk) (S : Nat → Prop) : Prop := ∃ mo n es, DiskIs W d N K S mo n es
/-- what is not of S stands -/
structure Sep (w w' : World) (S S' : Nat → Prop) : Prop where
  os : w'.os = w.os
  tape : w'.tape = w.tape
  output : w'.output = w.output
  size : w.heap.size ≤ w'.heap.size
  block : ∀ q, q < w.heap.size → ¬ S q → w'.heap[q]? = w.heap[q]?
  new : ∀ q, S' q → S q ∨ w.heap.size ≤ q
theorem Sep.refl (w : World) (S : Nat → Prop) : Sep w w S S := ⟨rfl, rfl, rfl, Nat.le_refl _, fun _ _ _ => rfl, fun _ h => .inl h⟩
theorem Sep.trans {a b c : World} {S S' S2 : Nat → Prop} (h : Sep a b S S') (k : Sep b c S' S2) : Sep a c S S2 :=
  ⟨k.os.trans h.os, k.tape.trans h.tape, k.output.trans h.output, Nat.le_trans h.size k.size, fun q hq hS => (k.block q (Nat.lt_of_lt_of_le hq h.size) (fun h' => by rcases h.new q h' with h1 | h1; exact hS h1; omega)).trans (h.block q hq hS), fun q hq => by
    rcases k.new q hq with h1 | h1
    · exact h.new q h1
    · exact .inr (Nat.le_trans h.size h1)⟩
theorem Sep.of_below {w w' : World} (S : Nat → Prop) (h : Below w.heap.size w w') : Sep w w' S S := ⟨h.os, h.tape, h.output, h.size, fun q hq _ => h.block q hq, fun _ h => .inl h⟩
theorem DiskIs.mono {W : World} {d N n : Nat} {K : Dk} {S S' : Nat → Prop} {mo : Option Nat} {es : List (Lit × DataW Value)} (h : DiskIs W d N K S mo n es) (hS : ∀ q, S q → S' q) (hl : ∀ q, S' q → q < W.heap.size) : DiskIs W d N K S' mo n es :=
  ⟨h.at', h.fs, h.nle, fun b hb => ⟨(h.mb b hb).1, hS _ (h.mb b hb).2.1, (h.mb b hb).2.2⟩, h.db, fun e he q hq => hS _ (h.eb e he q hq), h.fz, hS _ h.sd, hl⟩
theorem DiskIs.lt {W : World} {d N n : Nat} {K : Dk} {S : Nat → Prop} {mo : Option Nat} {es : List (Lit × DataW Value)} (h : DiskIs W d N K S mo n es) {e : Lit × DataW Value} (he : e ∈ es) {q : Nat} (hq : blk e = some q) : q < W.heap.size := by
  obtain ⟨a, _, ha⟩ := all_mem h.fs.all e he
  exact ha.lt hq
theorem DiskIs.below {W W' : World} {d N n : Nat} {K : Dk} {S : Nat → Prop} {mo : Option Nat} {es : List (Lit × DataW Value)} (h : DiskIs W d N K S mo n es) (hb : Below W.heap.size W W') : DiskIs W' d N K S mo n es :=
  ⟨h.at'.below hb, h.fs.far (fun e he q hq => hb.block q (h.lt he hq)), h.nle, h.mb, h.db, h.eb, fun j => keepF hb h.at'.lt (h.fz j), h.sd, fun q hq => Nat.lt_of_lt_of_le (h.sl q hq) hb.size⟩
theorem DiskOK.below {W W' : World} {d N : Nat} {K : Dk} {S : Nat → Prop} (h : DiskOK W d N K S) (hb : Below W.heap.size W W') : DiskOK W' d N K S := by
  obtain ⟨mo, n, es, h⟩ := h
  exact ⟨mo, n, es, h.below hb⟩
theorem DiskOK.mono {W : World} {d N N' : Nat} {K : Dk} {S : Nat → Prop} (h : DiskOK W d N K S) (hN : N ≤ N') : DiskOK W d N' K S := by
  obtain ⟨mo, n, es, h'⟩ := h
  exact ⟨mo, n, es, ⟨h'.at', h'.fs, Nat.le_trans h'.nle hN, h'.mb, h'.db, h'.eb, h'.fz, h'.sd, h'.sl⟩⟩
/-- a cell of the disk's own block written -/
theorem DiskIs.fuse {W : World} {d N n : Nat} {K : Dk} {S : Nat → Prop} {mo : Option Nat} {es : List (Lit × DataW Value)} (h : DiskIs W d N K S mo n es) (x : Int) : DiskIs (W.setCell ⟨d, 2, none⟩ (.int .i64 x)) d N { K with fuse := x } S mo n es :=
  ⟨h.at'.fuse (fun b hb => (h.mb b hb).1) x, h.fs.far (fun e he q hq => Below.heap_setCell _ _ _ _ (fun e' => h.db e he (by rw [hq, e']))), h.nle, h.mb, h.db, h.eb, fun j => by rw [World.frozen?_setCell]; exact h.fz j, h.sd, fun q hq => by simpa using h.sl q hq⟩
theorem DiskIs.downs {W : World} {d N n : Nat} {K : Dk} {S : Nat → Prop} {mo : Option Nat} {es : List (Lit × DataW Value)} (h : DiskIs W d N K S mo n es) (x : Bool) : DiskIs (W.setCell ⟨d, 3, none⟩ (.bool x)) d N { K with down := x } S mo n es :=
  ⟨h.at'.downs (fun b hb => (h.mb b hb).1) x, h.fs.far (fun e he q hq => Below.heap_setCell _ _ _ _ (fun e' => h.db e he (by rw [hq, e']))), h.nle, h.mb, h.db, h.eb, fun j => by rw [World.frozen?_setCell]; exact h.fz j, h.sd, fun q hq => by simpa using h.sl q hq⟩
theorem Sep.cell (w : World) (S : Nat → Prop) (d j : Nat) (v : Value) (hd : S d) : Sep w (w.setCell ⟨d, j, none⟩ v) S S :=
  ⟨rfl, rfl, rfl, by simp, fun q _ hq => Below.heap_setCell _ ⟨d, j, none⟩ _ q (fun e => hq (by rw [e]; exact hd)), fun _ h => .inl h⟩
/-- a file put under its name -/
theorem put_is {w : World} {d N n : Nat} {K : Dk} {S : Nat → Prop} {mo : Option Nat} {es : List (Lit × DataW Value)} (h : DiskIs w d N K S mo n es) (hN : N < 1000000) (s : ByteArray) (hs : s.size ≤ maxLen) (p : Option Addr) (c : Nat) (x : Fl) (hrow : w.ownsRow 0 5 1 (.slice p x.bs.length c) x.bs.length (bcs x.bs))
    (hb : ∀ q, (Value.slice p x.bs.length c).ownBlock = some q → S q ∧ q ≠ d ∧ mo ≠ some q ∧ ∀ e ∈ es, e.1 ≠ .string s.data.toList → blk e ≠ some q) :
    Calls Try.prog 37 #[.pointer (some ⟨d, 0, none⟩), .string s, .agg #[.slice p x.bs.length c, .int .i64 (x.sy : Int)]] w fun e w' => (∃ r, e = .returned r) ∧ ∃ S', DiskOK w' d (N + 1) { K with A := putF s.data.toList x K.A } S' ∧ Sep w w' S S' := by
  have hnm : n < maxLen := by have := h.nle; unfold maxLen; omega
  refine (put_any s hs p x.bs.length c (x.sy : Int) d n hnm mo K.cap K.fuse K.down (.map es) w h.at' (fun b hb => (h.mb b hb).1) (h.fz 1)).mono ?_
  rintro e w' ⟨hr, b', hD, hmo, os, tp, ou, sz, hblk, hfz⟩
  have hdl := h.at'.lt
  have hkeep : ∀ q, q < w.heap.size → q ≠ d → mo ≠ some q → w'.heap[q]? = w.heap[q]? := fun q hq h1 h2 => hblk q hq (fun e => h2 e.symm) (fun _ => h1)
  have hrow' : w'.ownsRow 0 5 1 (.slice p x.bs.length c) x.bs.length (bcs x.bs) := row_far hrow (fun q hq => hkeep q (hrow.lt q hq).2 (hb q hq).2.1 (hb q hq).2.2.1)
  have hes : ∀ y ∈ DataW.insert (.string s.data.toList, .held (.agg #[.slice p x.bs.length c, .int .i64 (x.sy : Int)])) (es.filter fun p => !p.1.sameKey (.string s.data.toList)), ∀ q, blk y = some q → S q ∧ q ≠ d ∧ mo ≠ some q ∧ q < w.heap.size := by
    intro y hy q hq
    rcases mem_insert hy with rfl | hy
    · have h1 := hb q hq
      exact ⟨h1.1, h1.2.1, h1.2.2.1, (hrow.lt q hq).2⟩
    · have hy' := (List.mem_filter.1 hy).1
      refine ⟨h.eb y hy' q hq, fun e => h.db y hy' (by rw [hq, e]), fun e => (h.mb q e).2.2 y hy' hq, h.lt hy' hq⟩
  have hbl : b' < w'.heap.size := by
    rcases hD.files with ⟨h1, _⟩ | ⟨b, h1, h2⟩
    · cases h1
    · injection h1 with h1
      subst h1
      exact h2.lt
  refine ⟨hr, fun q => S q ∨ q = b', ⟨some b', n + 1, _, ⟨hD, ?_, by have := h.nle; omega, ?_, fun e he hq => (hes e he d hq).2.1 rfl, fun e he q hq => .inl (hes e he q hq).1, fun j => ?_, .inl h.sd, fun q hq => hq.elim (fun h' => Nat.lt_of_lt_of_le (h.sl q h') sz) (fun e => by rw [e]; exact hbl)⟩⟩, ⟨os, tp, ou, sz, fun q hq hS => hkeep q hq (fun e => hS (by rw [e]; exact h.sd)) (fun e => hS (h.mb q e).2.1), fun q hq => hq.elim .inl (fun e => ?_)⟩⟩
  · refine FilesAt.put (h.fs.far (fun e he q hq => hkeep q (h.lt he hq) (fun e' => h.db e he (by rw [hq, e'])) (fun e' => (h.mb q e').2.2 e he hq))) ⟨rfl, p, c, rfl, hrow'⟩ (fun e he hne q hq hq' => (hb q hq').2.2.2 e he hne hq)
  · intro b hb'
    injection hb' with hb'
    subst hb'
    rcases hmo with hmo | ⟨hmo, hle⟩
    · refine ⟨(h.mb b' hmo).1, .inl (h.mb b' hmo).2.1, fun e he hq => (hes e he b' hq).2.2.1 hmo⟩
    · exact ⟨by omega, .inr rfl, fun e he hq => by have := (hes e he b' hq).2.2.2; omega⟩
  · rw [hfz j]
    exact h.fz j
  · subst e
    rcases hmo with hmo | ⟨_, hle⟩
    · exact .inl (h.mb q hmo).2.1
    · exact .inr hle
/-- how a changing call ends -/
def chgK (K : Dk) (er : Int) (A' : Fs) : Dk × Int :=
  if K.down = true then (K, 34) else if er ≠ 0 then (K, er) else if K.fuse = 0 then ({ K with fuse := -1, down := true }, 34) else ({ K with fuse := if 0 < K.fuse then K.fuse - 1 else K.fuse, A := A' }, 0)
theorem change_ok {w : World} {d N n : Nat} {K : Dk} {S : Nat → Prop} {mo : Option Nat} {es : List (Lit × DataW Value)} (h : DiskIs w d N K S mo n es) (hf1 : K.fuse ≤ 9223372036854775807) (er : Int) (A' : Fs) (g : Nat) (lb : Array Value) (eg : ∀ args w, (callFunc g args).run Try.prog w = .ok (.enter g args) w)
    (hdo : K.down = false → er = 0 → K.fuse ≠ 0 → ∀ (w1 : World) (x : Int), (w1 = w ∨ w1 = w.setCell ⟨d, 2, none⟩ (.int .i64 x)) → DiskIs w1 d N { K with fuse := x } S mo n es → Calls Try.prog g lb w1 fun e w' => (∃ v, e = .returned v) ∧ ∃ S', DiskOK w' d (N + 1) { K with fuse := x, A := A' } S' ∧ Sep w1 w' S S') :
    Calls Try.prog 40 #[.pointer (some ⟨d, 0, none⟩), .int .i64 er, .func (.func g) #[] lb] w fun e w' => e = .returned (.int .i64 (chgK K er A').2) ∧ ∃ S', DiskOK w' d (N + 1) (chgK K er A').1 S' ∧ Sep w w' S S' := by
  have hok : DiskOK w d (N + 1) K S := DiskOK.mono ⟨mo, n, es, h⟩ (by omega)
  cases hdn : K.down with
  | true =>
    have hc : chgK K er A' = (K, 34) := by unfold chgK; rw [if_pos hdn]
    rw [hc]
    have c3 := h.at'.c3
    rw [hdn] at c3
    refine (change_down d er _ w c3).mono ?_
    rintro e w' ⟨rfl, rfl⟩
    exact ⟨rfl, S, hok, Sep.refl _ _⟩
  | false =>
    have c3 := h.at'.c3
    rw [hdn] at c3
    by_cases he : er = 0
    · subst he
      by_cases h0 : K.fuse = 0
      · have hc : chgK K 0 A' = ({ K with fuse := -1, down := true }, 34) := by unfold chgK; rw [if_neg (by rw [hdn]; simp), if_neg (by simp), if_pos h0]
        rw [hc]
        have c2 := h.at'.c2
        rw [h0] at c2
        refine (change_fails d _ w c2 c3 (h.fz 2) (h.fz 3)).mono ?_
        rintro e w' ⟨rfl, rfl⟩
        exact ⟨rfl, S, DiskOK.mono ⟨mo, n, es, (h.fuse (-1)).downs true⟩ (by omega), (Sep.cell w S d 2 _ h.sd).trans (Sep.cell _ S d 3 _ h.sd)⟩
      · obtain ⟨x, hx⟩ : ∃ x, x = if 0 < K.fuse then K.fuse - 1 else K.fuse := ⟨_, rfl⟩
        have hc : chgK K 0 A' = ({ K with fuse := x, A := A' }, 0) := by unfold chgK; rw [if_neg (by rw [hdn]; simp), if_neg (by simp), if_neg h0, hx]
        rw [hc]
        obtain ⟨w1, hw1⟩ : ∃ w1, w1 = if 0 < K.fuse then w.setCell ⟨d, 2, none⟩ (.int .i64 (K.fuse - 1)) else w := ⟨_, rfl⟩
        have hor : w1 = w ∨ w1 = w.setCell ⟨d, 2, none⟩ (.int .i64 x) := by
          rw [hw1, hx]
          by_cases hp : 0 < K.fuse
          · rw [if_pos hp, if_pos hp]; exact .inr rfl
          · rw [if_neg hp]; exact .inl rfl
        have hD1 : DiskIs w1 d N { K with fuse := x } S mo n es := by
          rw [hw1, hx]
          by_cases hp : 0 < K.fuse
          · rw [if_pos hp, if_pos hp]; exact h.fuse _
          · rw [if_neg hp, if_neg hp]; exact h
        have hs1 : Sep w w1 S S := by
          rcases hor with e | e
          · rw [e]; exact Sep.refl _ _
          · rw [e]; exact Sep.cell w S d 2 _ h.sd
        refine (change_does d K.fuse h0 hf1 g lb eg w w1 (fun w' => ∃ S', DiskOK w' d (N + 1) { K with fuse := x, A := A' } S' ∧ Sep w w' S S') h.at'.c2 c3 (h.fz 2) hw1 ((hdo hdn rfl h0 w1 x hor hD1).mono ?_)).mono ?_
        · rintro e w' ⟨hr, S', h1, h2⟩
          exact ⟨hr, S', h1, hs1.trans h2⟩
        · rintro e w' ⟨rfl, h1⟩
          exact ⟨rfl, h1⟩
    · have hc : chgK K er A' = (K, er) := by unfold chgK; rw [if_neg (by rw [hdn]; simp), if_pos he]
      rw [hc]
      refine (change_refused d er he _ w c3).mono ?_
      rintro e w' ⟨rfl, rfl⟩
      exact ⟨rfl, S, hok, Sep.refl _ _⟩
end Go.Proofs.Ytpeohbkigkfcgaa
