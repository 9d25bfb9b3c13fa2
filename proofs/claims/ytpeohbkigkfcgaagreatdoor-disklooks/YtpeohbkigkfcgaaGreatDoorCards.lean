/-
  DERIVED. GIVEN WITH THE SEED: THE CARDS: each row of YtpeohbkigkfcgaaGreatDoorRows.lean that lists a variable, with what it lists TIED to the program's text (the seventh form; the later family's looks); each row that meets fmt, with fmt's text TOLD by the authors' own Lean function (tested against real Go, not proved from fmt's source: count such statements apart). THE CARD IS WHAT COUNTS. Prove the row's statement (the work); the ties are given (YtpeohbkigkfcgaaGreatDoorTie.lean); close each card by the builder's one call (the guide's Derived/Test/ToyasCard.lean, 'card_holds'). Laid BY PROGRAM, IN A SANDBOX (cutbox-door.mjs). By AI agents, Wed Nov 11 2026. No macro, syntax, notation, axiom, sorry.
-/
import Derived.Test.YtpeohbkigkfcgaaGreatDoorRows
import GoSem.ClaimSeven
namespace Go.Proofs.YtpeohbkigkfcgaaGreatDoor
namespace Rows

/-- THE TIED CARD OF 'daybooklaw03.DiskStates'. -/
def diskStatesCard : Claim7 := { stood := { row := diskStatesRow, standIns := [], harness := (true, "f8b8db538d9e3fa497dd9d2dc5544208417ef1e12f4fca891eb302daafb3ac91"), looks := false }, kinds := [], alts := [], laidByText := true, laidKinds := [.data, .data, .data], laidTests := true, laidLooks := .later }
def DiskStatesCardSaid : Prop := Claim7.holds Tryz.pinned (.plain (OpenSpec.ofChange diskStatesSpec)) diskStatesCard

/-- THE TIED CARD OF 'daybooklaw03.DiskChanges'. -/
def diskChangesCard : Claim7 := { stood := { row := diskChangesRow, standIns := [], harness := (true, "f8b8db538d9e3fa497dd9d2dc5544208417ef1e12f4fca891eb302daafb3ac91"), looks := false }, kinds := [], alts := [], laidByText := true, laidKinds := [.data, .data, .data], laidTests := true, laidLooks := .later }
def DiskChangesCardSaid : Prop := Claim7.holds Tryz.pinned (.plain (OpenSpec.ofChange diskChangesSpec)) diskChangesCard

/-- THE TIED CARD OF 'daybooklaw03.DiskLooks'. -/
def diskLooksCard : Claim7 := { stood := { row := diskLooksRow, standIns := [], harness := (true, "f8b8db538d9e3fa497dd9d2dc5544208417ef1e12f4fca891eb302daafb3ac91"), looks := false }, kinds := [], alts := [], laidByText := true, laidKinds := [.data, .data, .data], laidTests := true, laidLooks := .later }
def DiskLooksCardSaid : Prop := Claim7.holds Tryz.pinned (.plain (OpenSpec.ofChange diskLooksSpec)) diskLooksCard

/-- THE SECOND FORM's CARD OF 'daybooklaw03.DiskStates'. -/
def diskStatesUptoCard : Claim7 := { stood := { row := diskStatesUptoRow, standIns := [], harness := (true, "f8b8db538d9e3fa497dd9d2dc5544208417ef1e12f4fca891eb302daafb3ac91"), looks := false }, kinds := [], alts := [], laidByText := true, laidKinds := [.data, .data, .data], laidTests := true, laidLooks := .later }
def DiskStatesUptoCardSaid : Prop := Claim7.holds Tryz.pinned (.plain (OpenSpec.upto diskStatesSpec)) diskStatesUptoCard

/-- THE SECOND FORM's CARD OF 'daybooklaw03.DiskChanges'. -/
def diskChangesUptoCard : Claim7 := { stood := { row := diskChangesUptoRow, standIns := [], harness := (true, "f8b8db538d9e3fa497dd9d2dc5544208417ef1e12f4fca891eb302daafb3ac91"), looks := false }, kinds := [], alts := [], laidByText := true, laidKinds := [.data, .data, .data], laidTests := true, laidLooks := .later }
def DiskChangesUptoCardSaid : Prop := Claim7.holds Tryz.pinned (.plain (OpenSpec.upto diskChangesSpec)) diskChangesUptoCard

/-- THE SECOND FORM's CARD OF 'daybooklaw03.DiskLooks'. -/
def diskLooksUptoCard : Claim7 := { stood := { row := diskLooksUptoRow, standIns := [], harness := (true, "f8b8db538d9e3fa497dd9d2dc5544208417ef1e12f4fca891eb302daafb3ac91"), looks := false }, kinds := [], alts := [], laidByText := true, laidKinds := [.data, .data, .data], laidTests := true, laidLooks := .later }
def DiskLooksUptoCardSaid : Prop := Claim7.holds Tryz.pinned (.plain (OpenSpec.upto diskLooksSpec)) diskLooksUptoCard
end Rows
end Go.Proofs.YtpeohbkigkfcgaaGreatDoor
