/- first (7): a disk goes through one play. -/
import Derived.Test.YtpeohbkigkfcgaaDkU
import Derived.Test.YtpeohbkigkfcgaaDkW
import Derived.Test.YtpeohbkigkfcgaaDkV
import Derived.Lib.SlBytesConst
namespace Go.Proofs.Ytpeohbkigkfcgaa
open Go Go.Shelf Go.ChangeShapes Go.WideShapes Go.ChangeAt Go.RowKit Go.Maps Go.Sort
set_option linter.unusedVariables false
def aS : ByteArray := ⟨#[97]⟩
def K0 : Dk := ⟨10, [], -1, false⟩
def K1 : Dk := ⟨10, [([97], ⟨[], 0⟩)], -1, false⟩
def K2 : Dk := ⟨10, [([97], ⟨[104, 101, 108, 108, 111], 0⟩)], -1, false⟩
def K3 : Dk := ⟨10, [([97], ⟨[104, 101, 108, 108, 111], 5⟩)], -1, false⟩
def K4 : Dk := ⟨10, [([97], ⟨[104, 101, 108, 108, 111, 97, 98, 99], 5⟩)], -1, false⟩
def K5 : Dk := ⟨10, [([97], ⟨[104, 101, 108, 108, 111, 97, 98], 7⟩)], -1, false⟩
theorem fst1 : chgK K0 (whyK aS K0) (newA aS K0) = (K1, 0) := by rfl
theorem fst2 : chgK K1 (erA aS [104, 101, 108, 108, 111] K1) (appA aS [104, 101, 108, 108, 111] K1) = (K2, 0) := by rfl
theorem fst3 : chgK K2 (erF aS K2) (syncA aS K2) = (K3, 0) := by rfl
theorem fst4 : chgK K3 (erA aS [97, 98, 99] K3) (appA aS [97, 98, 99] K3) = (K4, 0) := by rfl
theorem fst5 : crashK [2] K4 = K5 := by rfl
theorem fst6 : txtB [104, 101, 108, 108, 111, 97, 98] = ⟨#[104, 101, 108, 108, 111, 97, 98]⟩ := by rfl
theorem Inv.K0 : Inv K0 := Inv.new (x := 10) (f := -1) (b := false) (by decide) (by decide)
theorem Inv.K1 : Inv K1 := by have := Inv.K0.create aS; rw [fst1] at this; exact this
theorem Inv.K2 : Inv K2 := by have := Inv.K1.append aS [104, 101, 108, 108, 111]; rw [fst2] at this; exact this
theorem Inv.K3 : Inv K3 := by have := Inv.K2.sync aS; rw [fst3] at this; exact this
theorem Inv.K4 : Inv K4 := by have := Inv.K3.append aS [97, 98, 99]; rw [fst4] at this; exact this
theorem Inv.K5 : Inv K5 := by have := Inv.K4.crash [2]; rw [fst5] at this; exact this
theorem fcreate1 {w : World} {d N : Nat} {S : Nat → Prop} (h : DiskOK w d N K0 S) (hN : N < 1000000) : Calls Try.prog 22 #[.pointer (some ⟨d, 0, none⟩), .string ⟨#[97]⟩] w fun e w' => e = .returned (.int .i64 0) ∧ ∃ S', DiskOK w' d (N + 1) K1 S' ∧ Sep w w' S S' := by
  obtain ⟨mo, n, es, h⟩ := h
  have := create_ok h hN (by decide) aS (by decide)
  rw [fst1] at this
  exact this
theorem append2 {w : World} {d N : Nat} {S : Nat → Prop} (h : DiskOK w d N K1 S) (hN : N < 1000000) (b c : Nat) (hu : BytesAt w (.slice (some ⟨b, 0, none⟩) 5 c) [104, 101, 108, 108, 111]) (hb : b ≠ d) : Calls Try.prog 23 #[.pointer (some ⟨d, 0, none⟩), .string ⟨#[97]⟩, .slice (some ⟨b, 0, none⟩) 5 c] w fun e w' => e = .returned (.int .i64 0) ∧ ∃ S', DiskOK w' d (N + 1) K2 S' ∧ Sep w w' S S' := by
  obtain ⟨mo, n, es, h⟩ := h
  have := append_ok h hN (by decide) (by decide) (by decide) (by decide) aS (by decide) (some ⟨b, 0, none⟩) c [104, 101, 108, 108, 111] hu (fun q hq => by simp only [Value.ownBlock, Option.some.injEq] at hq; omega)
  rw [fst2] at this
  exact this
theorem sync3 {w : World} {d N : Nat} {S : Nat → Prop} (h : DiskOK w d N K2 S) (hN : N < 1000000) : Calls Try.prog 24 #[.pointer (some ⟨d, 0, none⟩), .string ⟨#[97]⟩] w fun e w' => e = .returned (.int .i64 0) ∧ ∃ S', DiskOK w' d (N + 1) K3 S' ∧ Sep w w' S S' := by
  obtain ⟨mo, n, es, h⟩ := h
  have := sync_ok h hN (by decide) aS (by decide)
  rw [fst3] at this
  exact this
theorem append4 {w : World} {d N : Nat} {S : Nat → Prop} (h : DiskOK w d N K3 S) (hN : N < 1000000) (b c : Nat) (hu : BytesAt w (.slice (some ⟨b, 0, none⟩) 3 c) [97, 98, 99]) (hb : b ≠ d) : Calls Try.prog 23 #[.pointer (some ⟨d, 0, none⟩), .string ⟨#[97]⟩, .slice (some ⟨b, 0, none⟩) 3 c] w fun e w' => e = .returned (.int .i64 0) ∧ ∃ S', DiskOK w' d (N + 1) K4 S' ∧ Sep w w' S S' := by
  obtain ⟨mo, n, es, h⟩ := h
  have := append_ok h hN (by decide) (by decide) (by decide) (by decide) aS (by decide) (some ⟨b, 0, none⟩) c [97, 98, 99] hu (fun q hq => by simp only [Value.ownBlock, Option.some.injEq] at hq; omega)
  rw [fst4] at this
  exact this
theorem crash5 {w : World} {d N : Nat} {S : Nat → Prop} (h : DiskOK w d N K4 S) (hN : N < 900000) (b c : Nat) (hk : w.cell? ⟨b, 0, none⟩ = some (.int .i64 2)) (hb : ¬ S b) : Calls Try.prog 25 #[.pointer (some ⟨d, 0, none⟩), .slice (some ⟨b, 0, none⟩) 1 c] w fun e w' => (∃ r, e = .returned r) ∧ ∃ S', DiskOK w' d (N + 1) K5 S' ∧ Sep w w' S S' := by
  have := crash_ok h hN Inv.K4 (some ⟨b, 0, none⟩) c [2] (.inr ⟨b, 0, c, rfl, fun i k hi => by
    match i, hi with
    | 0, hi => simp only [List.getElem?_cons_zero, Option.some.injEq] at hi; subst hi; exact hk⟩) (fun q hq => by simp only [Value.ownBlock, Option.some.injEq] at hq; subst hq; exact hb) (by decide)
  rw [fst5] at this
  exact this
theorem read6 {w : World} {d N : Nat} {S : Nat → Prop} (h : DiskOK w d N K5 S) : Calls Try.prog 26 #[.pointer (some ⟨d, 0, none⟩), .string ⟨#[97]⟩, .int .i64 0, .int .i64 7] w fun e w' => (∃ p c, e = .returned (.tuple #[.slice p 7 c, .int .i64 0]) ∧ (convert 27 9 (.slice p 7 c)).run Try.prog w' = .ok (.string ⟨#[104, 101, 108, 108, 111, 97, 98]⟩) w' ∧ w'.ownsRow 0 5 1 (.slice p 7 c) 7 (bcs [104, 101, 108, 108, 111, 97, 98])) ∧ Below w.heap.size w w' := by
  obtain ⟨mo, n, es, h⟩ := h
  refine (read_ok h aS (by decide) rfl (by decide) (x := ⟨[104, 101, 108, 108, 111, 97, 98], 7⟩) rfl (by decide) 7 (by decide)).mono ?_
  rintro e w' ⟨⟨p, c, rfl, hr⟩, hb⟩
  have hr' := row_base hr (Nat.zero_le _)
  exact ⟨⟨p, c, rfl, conv_row (bs := [104, 101, 108, 108, 111, 97, 98]) hr', hr'⟩, hb⟩
theorem free7 {w : World} {d N : Nat} {S : Nat → Prop} (h : DiskOK w d N K5 S) : Calls Try.prog 28 #[.pointer (some ⟨d, 0, none⟩)] w fun e w' => e = .returned (.int .i64 3) ∧ Below w.heap.size w w' := by
  obtain ⟨mo, n, es, h⟩ := h
  exact free_ok h (by decide) (by decide) (by decide)
theorem down8 {w : World} {d N : Nat} {S : Nat → Prop} (h : DiskOK w d N K5 S) : Calls Try.prog 29 #[.pointer (some ⟨d, 0, none⟩)] w fun e w' => e = .returned (.bool false) ∧ w' = w := by
  obtain ⟨mo, n, es, h⟩ := h
  exact down_ok h
theorem list9 {w : World} {d N : Nat} {S : Nat → Prop} (h : DiskOK w d N K5 S) : Calls Try.prog 27 #[.pointer (some ⟨d, 0, none⟩)] w fun e w' => (∃ g c, e = .returned (.tuple #[.slice (some ⟨g, 0, none⟩) 1 c, .int .i64 0]) ∧ w'.cell? ⟨g, 0, none⟩ = some (.string ⟨#[97]⟩)) ∧ Below w.heap.size w w' := by
  obtain ⟨mo, n, es, h⟩ := h
  refine (list_ok h Inv.K5.ord (by decide) rfl).mono ?_
  rintro e w' ⟨v, rfl, hr, hb⟩
  obtain ⟨g, c, rfl⟩ := own_open hr (by decide)
  exact ⟨⟨g, c, rfl, hr.cells (g := g) rfl 0 _ rfl⟩, hb⟩
end Go.Proofs.Ytpeohbkigkfcgaa
