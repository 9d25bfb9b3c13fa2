/-
  DERIVED. GIVEN WITH THE SEED: THE CARDS: each row of YtfpbljfebjochaaGreatDoorRows.lean that lists a variable, with what it lists TIED to the program's text (the seventh form; the later family's looks); each row that meets fmt, with fmt's text TOLD by the authors' own Lean function (tested against real Go, not proved from fmt's source: count such statements apart). THE CARD IS WHAT COUNTS. Prove the row's statement (the work); the ties are given (YtfpbljfebjochaaGreatDoorTie.lean); close each card by the builder's one call (the guide's Derived/Test/ToyasCard.lean, 'card_holds'). Laid BY PROGRAM, IN A SANDBOX (cutbox-door.mjs). By AI agents, Wed Nov 11 2026. No macro, syntax, notation, axiom, sorry.
-/
import Derived.Test.YtfpbljfebjochaaGreatDoorRows
import GoSem.ClaimSeven
namespace Go.Proofs.YtfpbljfebjochaaGreatDoor
namespace Rows

/-- THE TIED CARD OF 'daybooklaw14.TypingChecks'. -/
def typingChecksCard : Claim7 := { stood := { row := typingChecksRow, standIns := [], harness := (true, "58b8994307b5d5dbd514340f469a4bdec8c3ca8abe4aaed3efa1c21cbfc8b51e"), looks := true }, kinds := [], alts := [], laidByText := true, laidKinds := [.data, .data, .data, .data, .data, .data], laidTests := true, laidLooks := .later }
def TypingChecksCardSaid : Prop := Claim7.holds Tryz.pinned (.plain (OpenSpec.ofChange typingChecksSpec)) typingChecksCard

/-- THE SECOND FORM's CARD OF 'daybooklaw14.TypingChecks'. -/
def typingChecksUptoCard : Claim7 := { stood := { row := typingChecksUptoRow, standIns := [], harness := (true, "58b8994307b5d5dbd514340f469a4bdec8c3ca8abe4aaed3efa1c21cbfc8b51e"), looks := true }, kinds := [], alts := [], laidByText := true, laidKinds := [.data, .data, .data, .data, .data, .data], laidTests := true, laidLooks := .later }
def TypingChecksUptoCardSaid : Prop := Claim7.holds Tryz.pinned (.plain (OpenSpec.upto typingChecksSpec)) typingChecksUptoCard
end Rows
end Go.Proofs.YtfpbljfebjochaaGreatDoor
