/- disk: Sync (44). -/
import Derived.Test.YtpeohbkigkfcgaaDskE
namespace Go.Proofs.Ytpeohbkigkfcgaa
open Go Go.ChangeShapes Go.WideShapes Go.ChangeAt Go.RowKit
set_option linter.unusedVariables false
/-- all but the disk's own blocks is as it was -/
structure Rest (d : Nat) (mo : Option Nat) (w w' : World) : Prop where
  os : w'.os = w.os
  tape : w'.tape = w.tape
  output : w'.output = w.output
  size : w.heap.size ≤ w'.heap.size
  block : ∀ k, k < w.heap.size → some k ≠ mo → k ≠ d → w'.heap[k]? = w.heap[k]?
theorem Rest.of_below {d : Nat} {mo : Option Nat} {w w' : World} (h : Below w.heap.size w w') : Rest d mo w w' := ⟨h.os, h.tape, h.output, h.size, fun k hk _ _ => h.block k hk⟩
theorem Rest.trans {d : Nat} {mo : Option Nat} {a b c : World} (h : Rest d mo a b) (k : Rest d mo b c) : Rest d mo a c := ⟨k.os.trans h.os, k.tape.trans h.tape, k.output.trans h.output, Nat.le_trans h.size k.size, fun i hi h1 h2 => (k.block i (Nat.lt_of_lt_of_le hi h.size) h1 h2).trans (h.block i hi h1 h2)⟩
theorem Rest.setCell (d : Nat) (mo : Option Nat) (w : World) (j : Nat) (v : Value) : Rest d mo w (w.setCell ⟨d, j, none⟩ v) := ⟨rfl, rfl, rfl, by simp, fun k _ _ h => Below.heap_setCell _ ⟨d, j, none⟩ _ k h⟩
theorem DiskAt.fuse {W : World} {d n : Nat} {cap fuse : Int} {mo : Option Nat} {down : Bool} {D : DataW Value} (h : DiskAt W d cap mo fuse down n D) (hdb : ∀ b, mo = some b → d ≠ b) (x : Int) : DiskAt (W.setCell ⟨d, 2, none⟩ (.int .i64 x)) d cap mo x down n D := by
  have e0 := h.c0
  have e1 := h.c1
  have e2 := h.c2
  have e3 := h.c3
  refine ⟨by go_simp, by go_simp, by go_simp, by go_simp, h.files.imp id ?_⟩
  rintro ⟨b, rfl, hm⟩
  exact ⟨b, rfl, hm.kept (Lib.grownBy_setCell W d 2 _) (fun e => hdb b rfl (Option.some.inj e).symm)⟩
theorem DiskAt.downs {W : World} {d n : Nat} {cap fuse : Int} {mo : Option Nat} {down : Bool} {D : DataW Value} (h : DiskAt W d cap mo fuse down n D) (hdb : ∀ b, mo = some b → d ≠ b) (x : Bool) : DiskAt (W.setCell ⟨d, 3, none⟩ (.bool x)) d cap mo fuse x n D := by
  have e0 := h.c0
  have e1 := h.c1
  have e2 := h.c2
  have e3 := h.c3
  refine ⟨by go_simp, by go_simp, by go_simp, by go_simp, h.files.imp id ?_⟩
  rintro ⟨b, rfl, hm⟩
  exact ⟨b, rfl, hm.kept (Lib.grownBy_setCell W d 3 _) (fun e => hdb b rfl (Option.some.inj e).symm)⟩
/-- how a changing call ends: er why it is refused (0: it is not), D' what the files then are -/
def Changed (er : Int) (d : Nat) (cap : Int) (mo : Option Nat) (fuse : Int) (down : Bool) (n : Nat) (D D' : DataW Value) (w : World) (e : Ending) (w' : World) : Prop :=
  Rest d mo w w' ∧
  ((down = true ∧ e = .returned (.int .i64 34) ∧ DiskAt w' d cap mo fuse down n D) ∨ (down = false ∧ er ≠ 0 ∧ e = .returned (.int .i64 er) ∧ DiskAt w' d cap mo fuse down n D) ∨
    (down = false ∧ er = 0 ∧ fuse = 0 ∧ e = .returned (.int .i64 34) ∧ DiskAt w' d cap mo (-1) true n D) ∨
    (down = false ∧ er = 0 ∧ fuse ≠ 0 ∧ e = .returned (.int .i64 0) ∧ ∃ b', (mo = some b' ∨ (mo = none ∧ w.heap.size ≤ b')) ∧ DiskAt w' d cap (some b') (if 0 < fuse then fuse - 1 else fuse) false (n + 1) D'))
/-- change, where what is to be done is a put -/
theorem change_put (er : Int) (s : ByteArray) (v : Value) (g : Nat) (lb : Array Value) (eg : ∀ args w, (callFunc g args).run Try.prog w = .ok (.enter g args) w) (d n : Nat) (mo : Option Nat) (cap fuse : Int) (hf1 : fuse ≤ 9223372036854775807) (down : Bool) (D : DataW Value) (w : World) (hD : DiskAt w d cap mo fuse down n D) (hdb : ∀ b, mo = some b → d ≠ b) (hfz : ∀ j, w.frozen? ⟨d, j, none⟩ = false)
    (hdo : down = false → er = 0 → ∀ (x : Int) (w1 : World), (w1 = w ∨ w1 = w.setCell ⟨d, 2, none⟩ (.int .i64 x)) → DiskAt w1 d cap mo x false n D → Calls Try.prog g lb w1 fun e w' => PutOut s v d cap mo x false n D w1 e w') :
    Calls Try.prog 40 #[.pointer (some ⟨d, 0, none⟩), .int .i64 er, .func (.func g) #[] lb] w fun e w' => Changed er d cap mo fuse down n D (D.put (.string s.data.toList) (.held v)) w e w' := by
  cases down with
  | true =>
    refine (change_down d er _ w hD.c3).mono ?_
    rintro e w' ⟨rfl, rfl⟩
    exact ⟨Rest.of_below (Below.refl _ _), .inl ⟨rfl, rfl, hD⟩⟩
  | false =>
    by_cases he : er = 0
    · subst he
      by_cases h0 : fuse = 0
      · subst h0
        refine (change_fails d _ w hD.c2 hD.c3 (hfz 2) (hfz 3)).mono ?_
        rintro e w' ⟨rfl, rfl⟩
        exact ⟨(Rest.setCell d mo w 2 _).trans (Rest.setCell d mo _ 3 _), .inr (.inr (.inl ⟨rfl, rfl, rfl, rfl, (hD.fuse hdb (-1)).downs hdb true⟩))⟩
      · obtain ⟨x, hx⟩ : ∃ x, x = if 0 < fuse then fuse - 1 else fuse := ⟨_, rfl⟩
        obtain ⟨w1, hw1⟩ : ∃ w1, w1 = if 0 < fuse then w.setCell ⟨d, 2, none⟩ (.int .i64 (fuse - 1)) else w := ⟨_, rfl⟩
        have hR1 : Rest d mo w w1 := by
          rw [hw1]
          split
          · exact Rest.setCell d mo w 2 _
          · exact Rest.of_below (Below.refl _ _)
        have hz1 : w1.heap.size = w.heap.size := by
          rw [hw1]
          split
          · simp
          · rfl
        have hD1 : DiskAt w1 d cap mo x false n D := by
          rw [hw1, hx]
          by_cases hp : 0 < fuse
          · rw [if_pos hp, if_pos hp]; exact hD.fuse hdb _
          · rw [if_neg hp, if_neg hp]; exact hD
        have hor : w1 = w ∨ w1 = w.setCell ⟨d, 2, none⟩ (.int .i64 x) := by
          rw [hw1, hx]
          by_cases hp : 0 < fuse
          · rw [if_pos hp, if_pos hp]; exact .inr rfl
          · rw [if_neg hp]; exact .inl rfl
        refine (change_does d fuse h0 hf1 g lb eg w w1 (fun w' => ∃ b', DiskAt w' d cap (some b') x false (n + 1) (D.put (.string s.data.toList) (.held v)) ∧ (mo = some b' ∨ (mo = none ∧ w.heap.size ≤ b')) ∧ Rest d mo w w') hD.c2 hD.c3 (hfz 2) hw1 ((hdo rfl rfl x w1 hor hD1).mono ?_)).mono ?_
        · rintro e w' ⟨hr, b', h1, h2, h3, h4, h5, h6, h7, _⟩
          rw [hz1] at h2
          exact ⟨hr, b', h1, h2, hR1.trans ⟨h3, h4, h5, h6, fun k hk g1 g2 => h7 k hk g1 (fun _ => g2)⟩⟩
        · rintro e w' ⟨rfl, b', h1, h2, h3⟩
          rw [hx] at h1
          exact ⟨h3, .inr (.inr (.inr ⟨rfl, rfl, h0, rfl, b', h2, h1⟩))⟩
    · refine (change_refused d er he _ w hD.c3).mono ?_
      rintro e w' ⟨rfl, rfl⟩
      exact ⟨Rest.of_below (Below.refl _ _), .inr (.inl ⟨rfl, he, rfl, hD⟩)⟩
end Go.Proofs.Ytpeohbkigkfcgaa
