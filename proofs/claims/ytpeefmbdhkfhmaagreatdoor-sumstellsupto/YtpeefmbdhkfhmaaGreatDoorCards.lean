/-
  DERIVED. GIVEN WITH THE SEED: THE CARDS: each row of YtpeefmbdhkfhmaaGreatDoorRows.lean that lists a variable, with what it lists TIED to the program's text (the seventh form; the later family's looks); each row that meets fmt, with fmt's text TOLD by the authors' own Lean function (tested against real Go, not proved from fmt's source: count such statements apart). THE CARD IS WHAT COUNTS. Prove the row's statement (the work); the ties are given (YtpeefmbdhkfhmaaGreatDoorTie.lean); close each card by the builder's one call (the guide's Derived/Test/ToyasCard.lean, 'card_holds'). Laid BY PROGRAM, IN A SANDBOX (cutbox-door.mjs). By AI agents, Wed Nov 11 2026. No macro, syntax, notation, axiom, sorry.
-/
import Derived.Test.YtpeefmbdhkfhmaaGreatDoorRows
import GoSem.ClaimSeven
namespace Go.Proofs.YtpeefmbdhkfhmaaGreatDoor
namespace Rows

/-- THE TIED CARD OF 'daybooklaw08.SumsTells'. -/
def sumsTellsCard : Claim7 := { stood := { row := sumsTellsRow, standIns := [], harness := (true, "dc6421391290196ff51312f211027fd611562b4355d522e4ade510b6b29b3cd7"), looks := false }, kinds := [], alts := [], laidByText := true, laidKinds := [.data, .data, .data, .data, .pinned], laidTests := true, laidLooks := .later }
def SumsTellsCardSaid : Prop := Claim7.holds Tryz.pinned (.plain (OpenSpec.ofChange sumsTellsSpec)) sumsTellsCard

/-- THE TIED CARD OF 'daybooklaw08.SumsAll'. -/
def sumsAllCard : Claim7 := { stood := { row := sumsAllRow, standIns := [], harness := (true, "dc6421391290196ff51312f211027fd611562b4355d522e4ade510b6b29b3cd7"), looks := false }, kinds := [], alts := [], laidByText := true, laidKinds := [.data, .data, .data, .data, .pinned], laidTests := true, laidLooks := .later }
def SumsAllCardSaid : Prop := Claim7.holds Tryz.pinned (.plain (OpenSpec.ofChange sumsAllSpec)) sumsAllCard

/-- THE SECOND FORM's CARD OF 'daybooklaw08.SumsTells'. -/
def sumsTellsUptoCard : Claim7 := { stood := { row := sumsTellsUptoRow, standIns := [], harness := (true, "dc6421391290196ff51312f211027fd611562b4355d522e4ade510b6b29b3cd7"), looks := false }, kinds := [], alts := [], laidByText := true, laidKinds := [.data, .data, .data, .data, .pinned], laidTests := true, laidLooks := .later }
def SumsTellsUptoCardSaid : Prop := Claim7.holds Tryz.pinned (.plain (OpenSpec.upto sumsTellsSpec)) sumsTellsUptoCard

/-- THE SECOND FORM's CARD OF 'daybooklaw08.SumsAll'. -/
def sumsAllUptoCard : Claim7 := { stood := { row := sumsAllUptoRow, standIns := [], harness := (true, "dc6421391290196ff51312f211027fd611562b4355d522e4ade510b6b29b3cd7"), looks := false }, kinds := [], alts := [], laidByText := true, laidKinds := [.data, .data, .data, .data, .pinned], laidTests := true, laidLooks := .later }
def SumsAllUptoCardSaid : Prop := Claim7.holds Tryz.pinned (.plain (OpenSpec.upto sumsAllSpec)) sumsAllUptoCard
end Rows
end Go.Proofs.YtpeefmbdhkfhmaaGreatDoor
