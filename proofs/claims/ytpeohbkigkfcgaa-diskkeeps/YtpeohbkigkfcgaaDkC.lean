/- disk: find (43), Sync (24), Remove (33). -/
import Derived.Test.YtpeohbkigkfcgaaDkB
import Derived.Shelf.Abstract
namespace Go.Proofs.Ytpeohbkigkfcgaa
open Go Go.Shelf Go.ChangeShapes Go.WideShapes Go.ChangeAt Go.RowKit
set_option linter.unusedVariables false
theorem apart_two : ∀ {l : List (Lit × DataW Value)}, l.Pairwise (fun x y => ∀ q, blk x = some q → blk y ≠ some q) → ∀ x ∈ l, ∀ y ∈ l, x ≠ y → ∀ q, blk x = some q → blk y ≠ some q
  | [], _, x, hx, _, _, _, _, _ => by cases hx
  | a :: l, h, x, hx, y, hy, hne, q, hq => by
    rw [List.pairwise_cons] at h
    rcases List.mem_cons.1 hx with hx1 | hx1
    · subst hx1
      rcases List.mem_cons.1 hy with hy1 | hy1
      · exact absurd hy1.symm hne
      · exact h.1 y hy1 q hq
    · rcases List.mem_cons.1 hy with hy1 | hy1
      · subst hy1
        exact fun h' => h.1 x hx1 q h' hq
      · exact apart_two h.2 x hx1 y hy1 hne q hq
/-- why a file is not found -/
def erF (s : ByteArray) (K : Dk) : Int := if nameS s = false then 32 else if (getF s.data.toList K.A).isSome = true then 0 else 31
/-- a file that was found -/
structure Hit (w : World) (s : ByteArray) (K : Dk) (es : List (Lit × DataW Value)) (p : Option Addr) (m c : Nat) (y : Int) (x : Fl) : Prop where
  get : getF s.data.toList K.A = some x
  len : m = x.bs.length
  syn : y = (x.sy : Int)
  mem : (Lit.string s.data.toList, DataW.held (.agg #[.slice p m c, .int .i64 y])) ∈ es
  row : w.ownsRow 0 5 1 (.slice p m c) m (bcs x.bs)
def FindK (w : World) (s : ByteArray) (K : Dk) (es : List (Lit × DataW Value)) (p : Option Addr) (m c : Nat) (y er : Int) : Prop :=
  er = erF s K ∧ (er ≠ 0 → p = none ∧ m = 0 ∧ c = 0 ∧ y = 0) ∧ (er = 0 → ∃ x, Hit w s K es p m c y x)
theorem find_ok {w : World} {d N n : Nat} {K : Dk} {S : Nat → Prop} {mo : Option Nat} {es : List (Lit × DataW Value)} (h : DiskIs w d N K S mo n es) (s : ByteArray) (hs : s.size ≤ maxLen) :
    Calls Try.prog 43 #[.pointer (some ⟨d, 0, none⟩), .string s] w fun e w' => (∃ p m c y er, e = .returned (.tuple #[.agg #[.slice p m c, .int .i64 y], .int .i64 er]) ∧ FindK w s K es p m c y er) ∧ Below w.heap.size w w' := by
  refine (find_any s hs d n mo K.cap K.fuse K.down (.map es) w h.at').mono ?_
  rintro e w' ⟨⟨p, m, c, y, er, he, hc, hz⟩, hb⟩
  refine ⟨⟨p, m, c, y, er, he, ?_, hz, fun h0 => ?_⟩, hb⟩
  · unfold erF
    rcases hc with ⟨h1, h2⟩ | ⟨h1, h2, h3⟩ | ⟨h1, h2, h3, _⟩
    · rw [if_pos h1, h2]
    · rw [has_tie h.fs.all] at h2
      rw [if_neg (by rw [h1]; simp), if_neg (by rw [h2]; simp), h3]
    · rw [has_tie h.fs.all] at h2
      rw [if_neg (by rw [h1]; simp), if_pos h2, h3]
  · rcases hc with ⟨h1, h2⟩ | ⟨h1, h2, h3⟩ | ⟨h1, h2, h3, h4⟩
    · omega
    · omega
    · rw [has_tie h.fs.all, Option.isSome_iff_exists] at h2
      obtain ⟨x, hx⟩ := h2
      obtain ⟨e0, he0, ha, hf⟩ := at_tie h.fs.all hx (.held noFile)
      rw [h4] at ha
      obtain ⟨f1, p', c', f2, f3⟩ := hf
      have e2 := ha.trans f2
      injection e2 with e2
      injection e2 with e2
      have e3 := congrArg Array.toList e2
      simp only [List.cons.injEq, Value.slice.injEq, Value.int.injEq, true_and, and_true] at e3
      obtain ⟨⟨g1, g2, g3⟩, g4⟩ := e3
      subst g1 g2 g3 g4
      obtain ⟨e01, e02⟩ := e0
      simp only at f1 ha
      subst f1
      rw [← ha] at he0
      exact ⟨x, hx, rfl, rfl, he0, f3⟩
/-- the block of a file that was found is its own -/
theorem Hit.own {w : World} {d N n : Nat} {K : Dk} {S : Nat → Prop} {mo : Option Nat} {es : List (Lit × DataW Value)} (h : DiskIs w d N K S mo n es) {s : ByteArray} {p : Option Addr} {m c : Nat} {y : Int} {x : Fl} (hh : Hit w s K es p m c y x) :
    ∀ q, (Value.slice p m c).ownBlock = some q → S q ∧ q ≠ d ∧ mo ≠ some q ∧ ∀ e ∈ es, e.1 ≠ .string s.data.toList → blk e ≠ some q := by
  intro q hq
  refine ⟨h.eb _ hh.mem q hq, fun e => h.db _ hh.mem (by rw [e] at hq; exact hq), fun e => (h.mb q e).2.2 _ hh.mem hq, fun e he hne h' => ?_⟩
  exact apart_two h.fs.apart e he _ hh.mem (fun e' => hne (by rw [e'])) q h' hq
/-- what a step of the fuse leaves of the other blocks -/
theorem cells_or {w w1 : World} {d : Nat} {x : Int} (hor : w1 = w ∨ w1 = w.setCell ⟨d, 2, none⟩ (.int .i64 x)) : ∀ a : Addr, a.block ≠ d → w1.cell? a = w.cell? a := fun a ha => by
  rcases hor with rfl | rfl
  · rfl
  · exact World.cell?_of_block (Below.heap_setCell _ ⟨d, 2, none⟩ _ a.block ha)
theorem rows_or {w w1 : World} {d : Nat} {x : Int} (hor : w1 = w ∨ w1 = w.setCell ⟨d, 2, none⟩ (.int .i64 x)) {B e s n : Nat} {v : Value} {xs : List Value} (h : w.ownsRow B e s v n xs) (hq : ∀ q, v.ownBlock = some q → q ≠ d) : w1.ownsRow B e s v n xs := by
  rcases hor with rfl | rfl
  · exact h
  · exact row_far h (fun q hq' => Below.heap_setCell _ ⟨d, 2, none⟩ _ q (hq q hq'))
def syncA (s : ByteArray) (K : Dk) : Fs := match getF s.data.toList K.A with
  | some x => putF s.data.toList ⟨x.bs, x.bs.length⟩ K.A
  | none => K.A
set_option maxRecDepth 100000 in
set_option maxHeartbeats 4000000 in
theorem sync_do (s : ByteArray) (hs : s.size ≤ maxLen) (p : Option Addr) (c : Nat) (y : Int) (B0 B1 B2 : Nat) {w : World} {d N n : Nat} {K : Dk} {S : Nat → Prop} {mo : Option Nat} {es : List (Lit × DataW Value)} (h : DiskIs w d N K S mo n es) (hN : N < 1000000) (x : Fl) (hrow : w.ownsRow 0 5 1 (.slice p x.bs.length c) x.bs.length (bcs x.bs))
    (hb : ∀ q, (Value.slice p x.bs.length c).ownBlock = some q → S q ∧ q ≠ d ∧ mo ≠ some q ∧ ∀ e ∈ es, e.1 ≠ .string s.data.toList → blk e ≠ some q)
    (k0 : w.cell? ⟨B0, 0, none⟩ = some (.pointer (some ⟨d, 0, none⟩))) (k1 : w.cell? ⟨B1, 0, none⟩ = some (.string s)) (k2 : w.cell? ⟨B2, 0, none⟩ = some (.slice p x.bs.length c)) (k3 : w.cell? ⟨B2, 1, none⟩ = some (.int .i64 y)) :
    Calls Try.prog 45 #[.pointer (some ⟨B0, 0, none⟩), .pointer (some ⟨B1, 0, none⟩), .pointer (some ⟨B2, 0, none⟩)] w fun e w' => (∃ v, e = .returned v) ∧ ∃ S', DiskOK w' d (N + 1) { K with A := putF s.data.toList ⟨x.bs, x.bs.length⟩ K.A } S' ∧ Sep w w' S S' := by
  have HP := hide (put_is h hN s hs p c ⟨x.bs, x.bs.length⟩ hrow hb)
  clear h hrow hb
  go_enter Try.func45, Try.ntmps45
  go_wp2_with fail
  refine (unhide HP).mono ?_
  rintro e w' ⟨⟨r, rfl⟩, h⟩
  have H := hide h
  clear h
  go_wp2_with fail
  go_end0
  exact ⟨⟨_, rfl⟩, unhide H⟩
set_option maxRecDepth 100000 in
set_option maxHeartbeats 4000000 in
theorem sync_ok {w : World} {d N n : Nat} {K : Dk} {S : Nat → Prop} {mo : Option Nat} {es : List (Lit × DataW Value)} (h : DiskIs w d N K S mo n es) (hN : N < 1000000) (hf1 : K.fuse ≤ 9223372036854775807) (s : ByteArray) (hs : s.size ≤ maxLen) :
    Calls Try.prog 24 #[.pointer (some ⟨d, 0, none⟩), .string s] w fun e w' => e = .returned (.int .i64 (chgK K (erF s K) (syncA s K)).2) ∧ ∃ S', DiskOK w' d (N + 1) (chgK K (erF s K) (syncA s K)).1 S' ∧ Sep w w' S S' := by
  have hdl := h.at'.lt
  have HD := hide h
  obtain ⟨R, hR⟩ : ∃ R, R = chgK K (erF s K) (syncA s K) := ⟨_, rfl⟩
  rw [← hR]
  have HR := hide hR
  clear h hR
  go_enter Try.func24, Try.ntmps24
  go_wp2_with fail
  have B0 : Hid (Below w.heap.size w ((w.alloc (.cells #[.pointer (some ⟨d, 0, none⟩)] 23)).alloc (.cells #[.string s] 9))) := bal (bal (Below.refl w.heap.size w) _) _
  refine (find_ok ((unhide HD).below (unhide B0)) s hs).mono ?_
  rintro e w3 ⟨⟨p, m, c, y, er, rfl, hfo⟩, hb3⟩
  have HFO := hide hfo
  have hz3 := hb3.size
  simp only [World.size_alloc] at hz3
  have k0 : w3.cell? ⟨w.heap.size, 0, none⟩ = some (.pointer (some ⟨d, 0, none⟩)) := (hb3.cell (p := ⟨w.heap.size, 0, none⟩) (by simp; omega)).trans (by simp)
  have k1 : w3.cell? ⟨w.heap.size + 1, 0, none⟩ = some (.string s) := (hb3.cell (p := ⟨w.heap.size + 1, 0, none⟩) (by simp)).trans (by simp)
  have B3 : Hid (Below w.heap.size w w3) := (unhide B0).trans (hb3.mono (by simp; omega))
  have HB3 := hide hb3
  have ka0 : ∀ o, (w3.alloc o).cell? ⟨w.heap.size, 0, none⟩ = some (.pointer (some ⟨d, 0, none⟩)) := fun o => keep1 (bal (Below.refl w3.heap.size w3) o) (by omega) k0
  have ka1 : Hid (∀ o, (w3.alloc o).cell? ⟨w.heap.size + 1, 0, none⟩ = some (.string s)) := fun o => keep1 (bal (Below.refl w3.heap.size w3) o) (by omega) k1
  clear hfo hb3
  go_wp2_with fail
  obtain ⟨w4, hw4⟩ : ∃ w4, w4 = w3.alloc (.cells #[.slice p m c, .int .i64 y] 67) := ⟨_, rfl⟩
  have B34 : Hid (Below w3.heap.size w3 w4) := by rw [hw4]; exact bal (Below.refl _ _) _
  have B4 : Hid (Below w.heap.size w w4) := step_below (unhide B3) (Nat.le_refl _) (unhide B34)
  have q0 : w4.cell? ⟨w.heap.size, 0, none⟩ = some (.pointer (some ⟨d, 0, none⟩)) := by rw [hw4]; exact ka0 _
  have q1 : w4.cell? ⟨w.heap.size + 1, 0, none⟩ = some (.string s) := by rw [hw4]; exact unhide ka1 _
  have q2 : w4.cell? ⟨w3.heap.size, 0, none⟩ = some (.slice p m c) := by rw [hw4]; simp
  have q3 : w4.cell? ⟨w3.heap.size, 1, none⟩ = some (.int .i64 y) := by rw [hw4]; simp
  rw [← hw4]
  clear hw4 ka0
  have hD4 := (unhide HD).below (unhide B4)
  refine (change_ok hD4 hf1 er (syncA s K) 45 _ (enters_of Try.func45 (by kernel_rfl) rfl) ?hdo).mono ?fin
  case hdo =>
    rintro hdn he0 hf0 w1 z hor hD1
    obtain ⟨x, hh⟩ := (unhide HFO).2.2 he0
    have hown := hh.own ((unhide HD).below (unhide B0))
    have hrow4 := own_below (own_below hh.row (unhide HB3)) (unhide B34)
    have hA : syncA s K = putF s.data.toList ⟨x.bs, x.bs.length⟩ K.A := by unfold syncA; rw [hh.get]
    have hml := hh.len
    subst hml
    rw [hA]
    exact sync_do s hs p c y w.heap.size (w.heap.size + 1) w3.heap.size hD1 hN x (rows_or hor hrow4 (fun q hq => (hown q hq).2.1)) hown ((cells_or hor _ (by show w.heap.size ≠ d; omega)).trans q0) ((cells_or hor _ (by show w.heap.size + 1 ≠ d; omega)).trans q1) ((cells_or hor _ (by show w3.heap.size ≠ d; omega)).trans q2) ((cells_or hor _ (by show w3.heap.size ≠ d; omega)).trans q3)
  case fin =>
    rintro e w5 ⟨rfl, S', hok, hsep⟩
    rw [(unhide HFO).1, ← unhide HR] at hok ⊢
    have HX : Hid (∃ S', DiskOK w5 d (N + 1) R.1 S' ∧ Sep w w5 S S') := ⟨S', hok, (Sep.of_below S (unhide B4)).trans hsep⟩
    clear hok hsep
    go_wp2_with fail
    go_ret
    exact ⟨rfl, unhide HX⟩
end Go.Proofs.Ytpeohbkigkfcgaa
