/-
  DERIVED. GIVEN WITH THE SEED: THE CARDS: each row of YtpeebhddpmggdaaGreatDoorRows.lean that lists a variable, with what it lists TIED to the program's text (the seventh form; the later family's looks); each row that meets fmt, with fmt's text TOLD by the authors' own Lean function (tested against real Go, not proved from fmt's source: count such statements apart). THE CARD IS WHAT COUNTS. Prove the row's statement (the work); the ties are given (YtpeebhddpmggdaaGreatDoorTie.lean); close each card by the builder's one call (the guide's Derived/Test/ToyasCard.lean, 'card_holds'). Laid BY PROGRAM, IN A SANDBOX (cutbox-door.mjs). By AI agents, Wed Nov 11 2026. No macro, syntax, notation, axiom, sorry.
-/
import Derived.Test.YtpeebhddpmggdaaGreatDoorRows
import GoSem.ClaimSeven
namespace Go.Proofs.YtpeebhddpmggdaaGreatDoor
namespace Rows

/-- THE TIED CARD OF 'daybooklaw04.StoreBegun'. -/
def storeBegunCard : Claim7 := { stood := { row := storeBegunRow, standIns := [], harness := (true, "e53f816aea17549dd7489c66df1869b8e9209a9b12f05bc4b3e8b671adc3b53c"), looks := true }, kinds := [], alts := [], laidByText := true, laidKinds := [.data, .data, .data, .data, .sentinel, .sentinel], laidTests := true, laidLooks := .later }
def StoreBegunCardSaid : Prop := Claim7.holds Tryz.pinned (.plain (OpenSpec.ofChange storeBegunSpec)) storeBegunCard

/-- THE TIED CARD OF 'daybooklaw04.StoreStays'. -/
def storeStaysCard : Claim7 := { stood := { row := storeStaysRow, standIns := [], harness := (true, "e53f816aea17549dd7489c66df1869b8e9209a9b12f05bc4b3e8b671adc3b53c"), looks := true }, kinds := [], alts := [], laidByText := true, laidKinds := [.data, .data, .data, .data, .sentinel, .sentinel], laidTests := true, laidLooks := .later }
def StoreStaysCardSaid : Prop := Claim7.holds Tryz.pinned (.plain (OpenSpec.ofChange storeStaysSpec)) storeStaysCard

/-- THE TIED CARD OF 'daybooklaw04.StoreTold'. -/
def storeToldCard : Claim7 := { stood := { row := storeToldRow, standIns := [], harness := (true, "e53f816aea17549dd7489c66df1869b8e9209a9b12f05bc4b3e8b671adc3b53c"), looks := true }, kinds := [], alts := [], laidByText := true, laidKinds := [.data, .data, .data, .data, .sentinel, .sentinel], laidTests := true, laidLooks := .later }
def StoreToldCardSaid : Prop := Claim7.holds Tryz.pinned (.plain (OpenSpec.ofChange storeToldSpec)) storeToldCard

/-- THE TIED CARD OF 'daybooklaw04.StoreSegments'. -/
def storeSegmentsCard : Claim7 := { stood := { row := storeSegmentsRow, standIns := [], harness := (true, "e53f816aea17549dd7489c66df1869b8e9209a9b12f05bc4b3e8b671adc3b53c"), looks := true }, kinds := [], alts := [], laidByText := true, laidKinds := [.data, .data, .data, .data, .sentinel, .sentinel], laidTests := true, laidLooks := .later }
def StoreSegmentsCardSaid : Prop := Claim7.holds Tryz.pinned (.plain (OpenSpec.ofChange storeSegmentsSpec)) storeSegmentsCard

/-- THE TIED CARD OF 'daybooklaw04.StoreFrames'. -/
def storeFramesCard : Claim7 := { stood := { row := storeFramesRow, standIns := [], harness := (true, "e53f816aea17549dd7489c66df1869b8e9209a9b12f05bc4b3e8b671adc3b53c"), looks := true }, kinds := [], alts := [], laidByText := true, laidKinds := [.data, .data, .data, .data], laidTests := true, laidLooks := .later }
def StoreFramesCardSaid : Prop := Claim7.holds Tryz.pinned (.plain (OpenSpec.ofChange storeFramesSpec)) storeFramesCard

/-- THE SECOND FORM's CARD OF 'daybooklaw04.StoreBegun'. -/
def storeBegunUptoCard : Claim7 := { stood := { row := storeBegunUptoRow, standIns := [], harness := (true, "e53f816aea17549dd7489c66df1869b8e9209a9b12f05bc4b3e8b671adc3b53c"), looks := true }, kinds := [], alts := [], laidByText := true, laidKinds := [.data, .data, .data, .data, .sentinel, .sentinel], laidTests := true, laidLooks := .later }
def StoreBegunUptoCardSaid : Prop := Claim7.holds Tryz.pinned (.plain (OpenSpec.upto storeBegunSpec)) storeBegunUptoCard

/-- THE SECOND FORM's CARD OF 'daybooklaw04.StoreStays'. -/
def storeStaysUptoCard : Claim7 := { stood := { row := storeStaysUptoRow, standIns := [], harness := (true, "e53f816aea17549dd7489c66df1869b8e9209a9b12f05bc4b3e8b671adc3b53c"), looks := true }, kinds := [], alts := [], laidByText := true, laidKinds := [.data, .data, .data, .data, .sentinel, .sentinel], laidTests := true, laidLooks := .later }
def StoreStaysUptoCardSaid : Prop := Claim7.holds Tryz.pinned (.plain (OpenSpec.upto storeStaysSpec)) storeStaysUptoCard

/-- THE SECOND FORM's CARD OF 'daybooklaw04.StoreTold'. -/
def storeToldUptoCard : Claim7 := { stood := { row := storeToldUptoRow, standIns := [], harness := (true, "e53f816aea17549dd7489c66df1869b8e9209a9b12f05bc4b3e8b671adc3b53c"), looks := true }, kinds := [], alts := [], laidByText := true, laidKinds := [.data, .data, .data, .data, .sentinel, .sentinel], laidTests := true, laidLooks := .later }
def StoreToldUptoCardSaid : Prop := Claim7.holds Tryz.pinned (.plain (OpenSpec.upto storeToldSpec)) storeToldUptoCard

/-- THE SECOND FORM's CARD OF 'daybooklaw04.StoreSegments'. -/
def storeSegmentsUptoCard : Claim7 := { stood := { row := storeSegmentsUptoRow, standIns := [], harness := (true, "e53f816aea17549dd7489c66df1869b8e9209a9b12f05bc4b3e8b671adc3b53c"), looks := true }, kinds := [], alts := [], laidByText := true, laidKinds := [.data, .data, .data, .data, .sentinel, .sentinel], laidTests := true, laidLooks := .later }
def StoreSegmentsUptoCardSaid : Prop := Claim7.holds Tryz.pinned (.plain (OpenSpec.upto storeSegmentsSpec)) storeSegmentsUptoCard

/-- THE SECOND FORM's CARD OF 'daybooklaw04.StoreFrames'. -/
def storeFramesUptoCard : Claim7 := { stood := { row := storeFramesUptoRow, standIns := [], harness := (true, "e53f816aea17549dd7489c66df1869b8e9209a9b12f05bc4b3e8b671adc3b53c"), looks := true }, kinds := [], alts := [], laidByText := true, laidKinds := [.data, .data, .data, .data], laidTests := true, laidLooks := .later }
def StoreFramesUptoCardSaid : Prop := Claim7.holds Tryz.pinned (.plain (OpenSpec.upto storeFramesSpec)) storeFramesUptoCard
end Rows
end Go.Proofs.YtpeebhddpmggdaaGreatDoor
